/- The law of MapPort, out of a contract of the program's MapPort (a premise: to be paid by the landed code's own contract). Condition: the argument is a table in the machine's memory. -/
import Derived.Test.YtpilmldcmpbabaaMarkTab
import Derived.Test.YtpilmldcmpbabaaArgTab
import Derived.Test.YtpilmldcmpbabaaSPuts
import Derived.Deep.RegionWith
import Derived.Deep.DeepCutAuto
namespace Go.Proofs.Ytpilmldcmpbabaa
open Go.RowKit Go.Sort

/-- What the program's MapPort must answer. -/
def ImplMapPort : Prop := ∀ (v : Value) (es : List (Int × Int)) (a p : Int) (w : World), es.length ≤ 4194304 → wfE es → (Lit.int .i64 a).wf = true → (Lit.int .i64 p).wf = true → TabAt w v es → Calls Try.prog 14 #[.agg #[v], .agg #[.int .i64 a, .int .i64 p]] w fun e w' => e = .returned (.int .i64 (portI es (a, p))) ∧ Below w.heap.size w w'

theorem szTab_big (es : List (Int × Int)) (v : Value) (w : World) (hL : es.length ≤ 9223372036854775807) (h : 1048576 < es.length) (ht : ArgTab w v es) :
    Calls Try.prog 7 #[.agg #[v], .int .i64 1048576] w fun e w' => e = .returned (.int .i64 (-1)) ∧ Below w.heap.size w w' := by
  have := lawSzArg v es 1048576 w hL (by decide) (by decide) ht
  rwa [if_pos (by omega)] at this
theorem szTab_small (es : List (Int × Int)) (v : Value) (q : Int) (w : World) (h : es.length ≤ 1048576) (hq : q = 1048576 - es.length) (ht : ArgTab w v es) :
    Calls Try.prog 7 #[.agg #[v], .int .i64 1048576] w fun e w' => e = .returned (.int .i64 q) ∧ Below w.heap.size w w' := by
  have := lawSzArg v es 1048576 w (by omega) (by decide) (by decide) ht
  rw [if_neg (by omega)] at this
  rwa [hq]
theorem toTab_form (v : Value) (es : List (Int × Int)) (w : World) (hn : es.length ≤ 4194304) (ht : ArgTab w v es) :
    Calls Try.prog 9 #[.agg #[v]] w fun e w' => ∃ g c, e = .returned (.agg #[.slice (some ⟨g, 0, none⟩) es.length c]) ∧ TabRoom w' w.heap.size (.slice (some ⟨g, 0, none⟩) es.length c) es ∧ Below w.heap.size w w' := by
  refine (toTabArg _ es w hn ht).mono ?_
  rintro e w' ⟨u, rfl, hu, hb⟩
  obtain ⟨g, c, rfl, _⟩ := id hu
  exact ⟨g, c, rfl, hu, hb⟩

set_option maxRecDepth 100000 in
set_option maxHeartbeats 3200000 in
theorem lawMapPort_of (HI : ImplMapPort) (v : Value) (es : List (Int × Int)) (a p : Int) (w : World) (hL : es.length ≤ 9223372036854775807) (ht : ArgTab w v es) (hwf : wfE es) (wa : (Lit.int .i64 a).wf = true) (wp : (Lit.int .i64 p).wf = true) :
    Calls Try.prog 4 #[.agg #[v], .agg #[.int .i64 a, .int .i64 p]] w fun e w' => e = .returned (.bool true) ∧ Below w.heap.size w w' := by
  have HT := Lib.hid ht
  obtain ⟨ad, cap, rfl, _, _⟩ := ht
  rcases Nat.lt_or_ge 1048576 es.length with h | h
  · have HS : Hid (∀ w, ArgTab w (.slice ad es.length cap) es → Calls Try.prog 7 #[.agg #[.slice ad es.length cap], .int .i64 1048576] w fun e w' => e = .returned (.int .i64 (-1)) ∧ Below w.heap.size w w') := fun w ht => szTab_big es _ w hL h ht
    go_enter Try.func4, Try.ntmps4
    go_wp2_with (go_at_call 7; refine (HS.out _ (HT.out.below (((Below.refl _ _).alloc (Nat.le_refl _) _).alloc (by simp) _))).mono ?_; rintro e w1 ⟨rfl, b1⟩)
    go_ret
    exact ⟨rfl, (((Below.refl _ _).alloc (Nat.le_refl _) _).alloc (by simp) _).trans (b1.mono (by simp; omega))⟩
  · have hn : es.length ≤ 4194304 := by omega
    obtain ⟨q, hq⟩ : ∃ q : Int, q = 1048576 - es.length := ⟨_, rfl⟩
    have hq0 : 0 ≤ q := by omega
    have HS : Hid (∀ w, ArgTab w (.slice ad es.length cap) es → Calls Try.prog 7 #[.agg #[.slice ad es.length cap], .int .i64 1048576] w fun e w' => e = .returned (.int .i64 q) ∧ Below w.heap.size w w') := fun w ht => szTab_small es _ q w h hq ht
    have HTo : Hid (∀ w, ArgTab w (.slice ad es.length cap) es → Calls Try.prog 9 #[.agg #[.slice ad es.length cap]] w fun e w' => ∃ g c, e = .returned (.agg #[.slice (some ⟨g, 0, none⟩) es.length c]) ∧ TabRoom w' w.heap.size (.slice (some ⟨g, 0, none⟩) es.length c) es ∧ Below w.heap.size w w') := fun w ht => toTab_form _ es w hn ht
    obtain ⟨m, hm⟩ : ∃ m, m = portI es (a, p) := ⟨_, rfl⟩
    have HM : Hid (∀ v w, TabAt w v es → Calls Try.prog 12 #[.agg #[v], .agg #[.int .i64 a, .int .i64 p]] w fun e w' => e = .returned (.int .i64 m) ∧ Below w.heap.size w w') := fun v w ht => by rw [hm]; exact specPort_any v es a p w hn ht
    have HI' : Hid (∀ v w, TabAt w v es → Calls Try.prog 14 #[.agg #[v], .agg #[.int .i64 a, .int .i64 p]] w fun e w' => e = .returned (.int .i64 m) ∧ Below w.heap.size w w') := fun v w ht => by rw [hm]; exact HI v es a p w hn hwf wa wp ht
    have HE : Hid (∀ u v w, TabAt w u es → TabAt w v es → Calls Try.prog 11 #[.agg #[u], .agg #[v]] w fun e w' => e = .returned (.bool true) ∧ Below w.heap.size w w') := fun u v w h1 h2 => eqTab_same u v es w hn h1 h2
    clear HI hm hq hL hwf wa wp
    go_enter Try.func4, Try.ntmps4
    go_wp2_with fail
    (go_at_call 7; refine (HS.out _ (HT.out.below (((Below.refl _ _).alloc (Nat.le_refl _) _).alloc (by simp) _))).mono ?_; rintro e w1 ⟨rfl, b1⟩; have t1 : w1.cell? ⟨w.heap.size, 0, none⟩ = some (.slice ad es.length cap) := (by rw [b1.cell (by simp <;> omega)]; simp); have e10 : w1.cell? ⟨w.heap.size + 1, 0, none⟩ = some (.int .i64 a) := (by rw [b1.cell (by simp <;> omega)]; simp); have e11 : w1.cell? ⟨w.heap.size + 1, 1, none⟩ = some (.int .i64 p) := (by rw [b1.cell (by simp <;> omega)]; simp); have B1 : Hid (Below w.heap.size w w1) := ((((Below.refl _ _).alloc (Nat.le_refl _) _).alloc (by simp) _).trans (b1.mono (by simp; omega))); have z1 : w.heap.size + 1 < w1.heap.size := (by have := b1.size; simp at this; omega); clear b1)
    have HT1 : Hid (∀ wx, Below w1.heap.size w1 wx → ArgTab wx (.slice ad es.length cap) es) := fun wx hb => (HT.out.below B1.out).below hb
    go_upto_region 5 with fail
    go_cut [6] (fun s wx => s = .int .i64 m ∧ Below w1.heap.size w1 wx)
    case first =>
      have cc : Below w1.heap.size w1 w1 := Below.refl _ _
      go_region_with (first
        | (go_at_call 9; refine (HTo.out _ (HT1.out _ (by first | exact cc | exact cc.drew))).mono ?_; rintro e wN ⟨ga, ca, rfl, ra, bN⟩; have RA := Lib.hid ra.tab; clear ra; have cc : Below w1.heap.size w1 wN := (by first | exact cc.trans (bN.mono cc.size) | exact cc.drew.trans (bN.mono cc.size)); have e10 : wN.cell? ⟨w.heap.size + 1, 0, none⟩ = some (.int .i64 a) := (by rw [cc.cell (by simp; omega)]; assumption); have e11 : wN.cell? ⟨w.heap.size + 1, 1, none⟩ = some (.int .i64 p) := (by rw [cc.cell (by simp; omega)]; assumption))
        | (go_at_call 13; refine (toEnd_any a p _).mono ?_; rintro e wN ⟨rfl, bN⟩; try (have RA := Lib.hid (RA.out.below bN)); have cc : Below w1.heap.size w1 wN := (by first | exact cc.trans (bN.mono cc.size) | exact cc.drew.trans (bN.mono cc.size)); have t1 : wN.cell? ⟨w.heap.size, 0, none⟩ = some (.slice ad es.length cap) := (by rw [cc.cell (by simp; omega)]; assumption))
        | (go_at_call 12; refine (HM.out _ _ RA.out).mono ?_; rintro e wN ⟨rfl, bN⟩; have cc : Below w1.heap.size w1 wN := cc.trans (bN.mono cc.size)))
      all_goals (go_wp2_with fail; go_meet; exact ⟨rfl, cc⟩)
    case rest =>
      obtain ⟨rfl, c2⟩ := hcut
      have t2 : wc.cell? ⟨w.heap.size, 0, none⟩ = some (.slice ad es.length cap) := by rw [c2.cell (by simp; omega)]; exact t1
      go_wp2_with fail
      (go_at_call 9; refine (HTo.out _ (HT1.out _ c2)).mono ?_; rintro e w4 ⟨gx, cx, rfl, rx, b4⟩; have c4 := c2.trans (b4.mono c2.size); have RX := Lib.hid rx; clear rx)
      go_upto_region 7 with fail
      have c5 : Below w1.heap.size w1 (w4.alloc (.cells #[.slice (some ⟨gx, 0, none⟩) es.length cx] 29)) := c4.alloc c4.size _
      have R5 := Lib.hid (RX.out.below ((Below.refl _ _).alloc (Nat.le_refl _) (.cells #[.slice (some ⟨gx, 0, none⟩) es.length cx] 29)))
      have e50 : ∀ o, (w4.alloc o).cell? ⟨w.heap.size + 1, 0, none⟩ = some (.int .i64 a) := fun o => by rw [(c4.alloc c4.size o).cell (by simp; omega)]; exact e10
      have e51 : ∀ o, (w4.alloc o).cell? ⟨w.heap.size + 1, 1, none⟩ = some (.int .i64 p) := fun o => by rw [(c4.alloc c4.size o).cell (by simp; omega)]; exact e11
      obtain ⟨X, hX⟩ : ∃ X, X = Obj.cells #[.slice (some ⟨gx, 0, none⟩) es.length cx] 29 := ⟨_, rfl⟩
      have x5 : ∀ wx, Below (w4.alloc X).heap.size (w4.alloc X) wx → wx.cell? ⟨w4.heap.size, 0, none⟩ = some (.slice (some ⟨gx, 0, none⟩) es.length cx) := fun wx hb => by rw [hb.cell (by simp), hX]; simp
      have X5 := Lib.hid x5
      rw [← hX] at c5 R5 ⊢
      have x50 := x5 _ (Below.refl _ _)
      have ee0 := e50 X
      have ee1 := e51 X
      have s5 : w4.heap.size < (w4.alloc X).heap.size := by simp
      clear x5 e50 e51
      obtain ⟨W5, hW5⟩ : ∃ W5, W5 = w4.alloc X := ⟨_, rfl⟩
      rw [← hW5] at c5 R5 X5 x50 ee0 ee1 s5 ⊢
      clear hW5 hX
      go_cut [8] (fun s wx => s = .int .i64 m ∧ Below W5.heap.size W5 wx)
      case first =>
        have cc : Below W5.heap.size W5 W5 := Below.refl _ _
        go_region_with (first
          | (go_at_call 13; refine (toEnd_any a p _).mono ?_; rintro e wN ⟨rfl, bN⟩; have cc : Below W5.heap.size W5 wN := (by first | exact cc.trans (bN.mono cc.size) | exact cc.drew.trans (bN.mono cc.size)); have t1 := X5.out _ cc)
          | (go_at_call 14; refine (HI'.out _ _ (R5.out.below cc).tab).mono ?_; rintro e wN ⟨rfl, bN⟩; have cc : Below W5.heap.size W5 wN := cc.trans (bN.mono cc.size)))
        all_goals (go_wp2_with fail; go_meet; exact ⟨rfl, cc⟩)
      case rest =>
        obtain ⟨rfl, c7⟩ := hcut
        have R7 := Lib.hid (R5.out.below c7)
        have d7 : Below w1.heap.size w1 wc := c5.trans (c7.mono c5.size)
        have t7 : wc.cell? ⟨w.heap.size, 0, none⟩ = some (.slice ad es.length cap) := by rw [d7.cell (by simp; omega)]; exact t1
        have x7 := X5.out _ c7
        have z7 : w4.heap.size < wc.heap.size := by have := c7.size; omega
        go_wp2_with fail
        go_region_with (first
          | (go_at_call 9; refine (HTo.out _ (HT1.out _ d7.drew)).mono ?_; rintro e w8 ⟨gy, cy, rfl, ry, b8⟩; have RY := Lib.hid ry; have d8 : Below wc.heap.size wc w8 := ((Below.refl _ _).drew).trans b8; have x8 : w8.cell? ⟨w4.heap.size, 0, none⟩ = some (.slice (some ⟨gx, 0, none⟩) es.length cx) := (by rw [d8.cell z7]; exact x7); clear ry b8)
          | (go_at_call 11; refine (HE.out _ _ _ (R7.out.below d8).tab RY.out.tab).mono ?_; rintro e w9 ⟨rfl, b9⟩; have c9 := d7.trans ((d8.trans (b9.mono d8.size)).mono d7.size)))
        all_goals
          go_wp2
          go_ret
          exact ⟨rfl, B1.out.trans (c9.mono (by omega))⟩

end Go.Proofs.Ytpilmldcmpbabaa
