/- The law of BakLine, out of a contract of the program's BakLine (a premise: to be paid by the landed code's own contract). Condition: the argument's ends lie in the machine's memory, at any address; P is what the program's BakLine asks of the variables that it reads. -/
import Derived.Test.YtpilmldcmpbabaaDoorSBak
import Derived.Test.YtpilmldcmpbabaaDoorArgTab
import Derived.Deep.RegionWith
import Derived.Deep.DeepCutAuto
namespace Go.Proofs.YtpilmldcmpbabaaDoor
open Go.RowKit Go.Sort

/-- What the program's BakLine must answer, where P holds of the variables. -/
def ImplBakLine (P : World → Prop) : Prop := ∀ (v : Value) (es : List (Int × Int)) (s : ByteArray) (w : World), es.length ≤ 4194304 → s.size ≤ 2097152 → wfE es → TabAt w v es → P w → Calls Tryd.prog 7 #[.agg #[v], .string s] w fun e w' => e = .returned (.string ⟨(bakE es s.data.toList).toArray⟩) ∧ Below w.heap.size w w'

set_option maxRecDepth 100000 in
set_option maxHeartbeats 3200000 in
theorem lawBakLine_of (P : World → Prop) (HP : ∀ w w', P w → Below w.heap.size w w' → P w') (HI : ImplBakLine P) (v : Value) (es : List (Int × Int)) (s : ByteArray) (w : World) (hL : es.length ≤ 9223372036854775807) (ht : ArgTab w v es) (hwf : wfE es) (hp : P w) :
    Calls Tryd.prog 3 #[.agg #[v], .string s] w fun e w' => e = .returned (.bool true) ∧ Below w.heap.size w w' := by
  have HT := Lib.hid ht
  obtain ⟨ad, cap, rfl, _, _⟩ := ht
  rcases Nat.lt_or_ge 1048576 s.size with hz | hz
  · clear HI HP hp
    go_enter Tryd.func3, Tryd.ntmps3
    go_wp2_with fail
    go_ret
    exact ⟨rfl, (Below.refl _ _).alloc (Nat.le_refl _) _⟩
  have hz2 : (s.size : Int) ≤ 1048576 := by omega
  rcases Nat.lt_or_ge 1048576 es.length with h | h
  · have HS : Hid (∀ w, ArgTab w (.slice ad es.length cap) es → Calls Tryd.prog 4 #[.agg #[.slice ad es.length cap], .int .i64 1048576] w fun e w' => e = .returned (.int .i64 (-1)) ∧ Below w.heap.size w w') := fun w ht => by
      have := lawSzArg _ es 1048576 w hL (by decide) (by decide) ht
      rwa [if_pos (by omega)] at this
    clear HI HP hp
    go_enter Tryd.func3, Tryd.ntmps3
    go_wp2_with (go_at_call 4; refine (HS.out _ (HT.out.below ((Below.refl _ _).alloc (Nat.le_refl _) _))).mono ?_; rintro e w1 ⟨rfl, b1⟩)
    go_ret
    exact ⟨rfl, ((Below.refl _ _).alloc (Nat.le_refl _) _).trans (b1.mono (by simp))⟩
  · have hn : es.length ≤ 4194304 := by omega
    obtain ⟨q, hq⟩ : ∃ q : Int, q = 1048576 - es.length := ⟨_, rfl⟩
    have hq0 : 0 ≤ q := by omega
    have HS : Hid (∀ w, ArgTab w (.slice ad es.length cap) es → Calls Tryd.prog 4 #[.agg #[.slice ad es.length cap], .int .i64 1048576] w fun e w' => e = .returned (.int .i64 q) ∧ Below w.heap.size w w') := fun w ht => by
      have := lawSzArg _ es 1048576 w hL (by decide) (by decide) ht
      rw [if_neg (by omega)] at this
      rwa [hq]
    have HTo : Hid (∀ w, ArgTab w (.slice ad es.length cap) es → Calls Tryd.prog 6 #[.agg #[.slice ad es.length cap]] w fun e w' => ∃ g c, e = .returned (.agg #[.slice (some ⟨g, 0, none⟩) es.length c]) ∧ TabRoom w' w.heap.size (.slice (some ⟨g, 0, none⟩) es.length c) es ∧ Below w.heap.size w w') := fun w ht => by
      refine (toTabArg _ es w hn ht).mono ?_
      rintro e w' ⟨u, rfl, hu, hb⟩
      obtain ⟨g, c, rfl, _⟩ := id hu
      exact ⟨g, c, rfl, hu, hb⟩
    obtain ⟨m, hm⟩ : ∃ m, m = (bakE es s.data.toList).toArray := ⟨_, rfl⟩
    have HM : Hid (∀ v w, TabAt w v es → Calls Tryd.prog 5 #[.agg #[v], .string s] w fun e w' => e = .returned (.string ⟨m⟩) ∧ Below w.heap.size w w') := fun v w ht => by rw [hm]; exact specBakLine_any v es s w hn (by omega) ht
    have HI' : Hid (∀ v w, TabAt w v es → P w → Calls Tryd.prog 7 #[.agg #[v], .string s] w fun e w' => e = .returned (.string ⟨m⟩) ∧ Below w.heap.size w w') := fun v w ht hp => by rw [hm]; exact HI v es s w hn (by omega) hwf ht hp
    have HE : Hid (∀ u v w, TabAt w u es → TabAt w v es → Calls Tryd.prog 8 #[.agg #[u], .agg #[v]] w fun e w' => e = .returned (.bool true) ∧ Below w.heap.size w w') := fun u v w h1 h2 => eqTab_same u v es w hn h1 h2
    have hW : Hid (∀ o w', Below (w.alloc o).heap.size (w.alloc o) w' → ArgTab w' (.slice ad es.length cap) es ∧ Below w.heap.size w w' ∧ w.heap.size < w'.heap.size ∧ P w') := fun o w' hb => by
      have h1 : Below w.heap.size w w' := ((Below.refl _ _).alloc (Nat.le_refl _) _).trans (hb.mono (by simp))
      exact ⟨HT.out.below h1, h1, by have := hb.size; simp at this; omega, HP _ _ hp h1⟩
    clear HI hm hq hL hp HP hwf
    go_enter Tryd.func3, Tryd.ntmps3
    go_wp2_with fail
    (go_at_call 4; refine (HS.out _ (HT.out.below ((Below.refl _ _).alloc (Nat.le_refl _) _))).mono ?_; rintro e w1 ⟨rfl, b1⟩; have t1 : w1.cell? ⟨w.heap.size, 0, none⟩ = some (.slice ad es.length cap) := (by rw [b1.cell (by simp)]; simp))
    go_wp2_with fail
    (go_at_call 6; refine (HTo.out _ (hW.out _ _ b1).1).mono ?_; rintro e w2 ⟨ga, ca, rfl, ra, b2⟩; have c2 := b1.trans (b2.mono b1.size); have t2 : w2.cell? ⟨w.heap.size, 0, none⟩ = some (.slice ad es.length cap) := (by rw [c2.cell (by simp)]; simp); have RA := Lib.hid ra; clear ra)
    go_wp2_with fail
    (go_at_call 5; refine (HM.out _ _ RA.out.tab).mono ?_; rintro e w3 ⟨rfl, b3⟩; have c3 := c2.trans (b3.mono c2.size); have t3 : w3.cell? ⟨w.heap.size, 0, none⟩ = some (.slice ad es.length cap) := (by rw [c3.cell (by simp)]; simp))
    go_wp2_with fail
    (go_at_call 6; refine (HTo.out _ (hW.out _ _ c3).1).mono ?_; rintro e w4 ⟨gx, cx, rfl, rx, b4⟩; have c4 := c3.trans (b4.mono c3.size); have t4 : w4.cell? ⟨w.heap.size, 0, none⟩ = some (.slice ad es.length cap) := (by rw [c4.cell (by simp)]; simp); have RX := Lib.hid rx; clear rx)
    go_wp2_with fail
    (go_at_call 7; refine (HI'.out _ _ (RX.out.tab.below ((Below.refl _ _).alloc (Nat.le_refl _) _)) (hW.out _ _ (c4.alloc c4.size _)).2.2.2).mono ?_; rintro e w5 ⟨rfl, b5⟩; have c5 := (c4.alloc c4.size _).trans (b5.mono (by have := c4.size; simp at this ⊢; omega)); have t5 : w5.cell? ⟨w.heap.size, 0, none⟩ = some (.slice ad es.length cap) := (by rw [c5.cell (by simp)]; simp); have x5 : w5.cell? ⟨w4.heap.size, 0, none⟩ = some (.slice (some ⟨gx, 0, none⟩) es.length cx) := (by rw [b5.cell (by simp)]; simp); have R5 := Lib.hid ((RX.out.below ((Below.refl _ _).alloc (Nat.le_refl _) (.cells #[.slice (some ⟨gx, 0, none⟩) es.length cx] 29))).below b5); have z5 : w4.heap.size < w5.heap.size := (by have := b5.size; simp at this; omega))
    go_wp2_with fail
    go_region_with (first
      | (go_at_call 6; refine (HTo.out _ (hW.out _ _ c5.drew).1).mono ?_; rintro e w6 ⟨gy, cy, rfl, ry, b6⟩; have RY := Lib.hid ry; have d6 : Below w5.heap.size w5 w6 := ((Below.refl _ _).drew).trans b6; have c6 := c5.trans (d6.mono c5.size); have t6 : w6.cell? ⟨w.heap.size, 0, none⟩ = some (.slice ad es.length cap) := (by rw [c6.cell (by simp)]; simp); have x6 : w6.cell? ⟨w4.heap.size, 0, none⟩ = some (.slice (some ⟨gx, 0, none⟩) es.length cx) := (by rw [d6.cell z5]; exact x5); clear ry b6)
      | (go_at_call 8; refine (HE.out _ _ _ (R5.out.below d6).tab RY.out.tab).mono ?_; rintro e w7 ⟨rfl, b7⟩; have c7 := c6.trans (b7.mono c6.size)))
    all_goals
      go_wp2
      go_ret
      exact ⟨rfl, (hW.out _ _ c7).2.1⟩

end Go.Proofs.YtpilmldcmpbabaaDoor
