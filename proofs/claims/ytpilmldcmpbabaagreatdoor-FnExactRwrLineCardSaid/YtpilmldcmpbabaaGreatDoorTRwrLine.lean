/- RwrLine of the program answers as RwrLine of the specification, at every argument; the arguments stay as they were. The card: the variables that are read are tied to the program's text. No condition beside what the law sets aside and the card says. (Several texts, joined: Box, IRwr, SRwrL, IRwrA, ArgTab, LawRwrLine, OpenTab, HoldRwrLine.) -/
import Derived.Test.YtpilmldcmpbabaaGreatDoorFresh
import Derived.Test.YtpilmldcmpbabaaGreatDoorOwnEnds
import Derived.Test.YtpilmldcmpbabaaGreatDoorIGive
import Derived.Test.YtpilmldcmpbabaaGreatDoorIMapO
import Derived.Test.YtpilmldcmpbabaaGreatDoorISays
import Derived.Test.YtpilmldcmpbabaaGreatDoorILin
import Derived.Test.YtpilmldcmpbabaaGreatDoorSRwr
import Derived.Test.YtpilmldcmpbabaaGreatDoorToTab
import Derived.Deep.RegionHeld3
import Derived.Deep.DeepCutAuto
import Derived.Deep.SlicePairs
import Derived.Lib.SmallJoins
import Derived.ChangeSame
import Derived.Test.YtpilmldcmpbabaaGreatDoorCards
import Derived.Test.YtpilmldcmpbabaaGreatDoorTie
import Derived.ProofKit
import Derived.JoinedOf
import Derived.JoinedAt
import Derived.RowKit3
import Derived.RowKitTokens
import Derived.LaidMore
import Derived.Stop.LaidErr
import Derived.Stop.Joined
import Derived.SevenTiedAt
import Derived.OpenShut
import Derived.ShutString
import Derived.ChangeOld
import Derived.Below
import Derived.Carry

/- Boxes and tables through calls, marks and stores: what stays. No condition. -/
namespace Go.Proofs.YtpilmldcmpbabaaGreatDoor
open Go.RowKit Go.Sort

/-- A box of one cell that a call finds new. -/
theorem fresh1 {W w : World} {x : Value} {t : TypeId} (h : Below (W.alloc (.cells #[x] t)).heap.size (W.alloc (.cells #[x] t)) w) : w.cell? ⟨W.heap.size, 0, none⟩ = some x ∧ w.frozen? ⟨W.heap.size, 0, none⟩ = false :=
  ⟨by rw [h.cell (by simp)]; simp, by rw [h.frozen (by simp)]; exact (cell_new W _ _ 0).2⟩
theorem fresh1d {W w : World} {x : Value} {t : TypeId} (h : Below (W.alloc (.cells #[x] t)).drew.heap.size (W.alloc (.cells #[x] t)).drew w) : w.cell? ⟨W.heap.size, 0, none⟩ = some x ∧ w.frozen? ⟨W.heap.size, 0, none⟩ = false :=
  fresh1 (((Below.refl _ _).drew).trans h)
theorem box_below {w w' : World} {b i : Nat} {v : Value} (h : w.cell? ⟨b, i, none⟩ = some v) (hb : Below w.heap.size w w') : w'.cell? ⟨b, i, none⟩ = some v := by
  rw [hb.cell (p := ⟨b, i, none⟩) (World.block_lt_of_cell? w _ h)]; exact h
theorem box_frozen {w w' : World} {b i : Nat} {v : Value} (h : w.cell? ⟨b, i, none⟩ = some v) (hf : w.frozen? ⟨b, i, none⟩ = false) (hb : Below w.heap.size w w') : w'.frozen? ⟨b, i, none⟩ = false := by
  rw [hb.frozen (p := ⟨b, i, none⟩) (World.block_lt_of_cell? w _ h)]; exact hf
theorem cell_grown {w w' : World} {b i : Nat} {v : Value} {row : Option Nat} (h : w.cell? ⟨b, i, none⟩ = some v) (hg : w.grownBy w' row) (hne : some b ≠ row) : w'.cell? ⟨b, i, none⟩ = some v := by
  have hk := hg.block b (World.block_lt_of_cell? w _ h) hne
  simp only [World.cell?] at h ⊢
  rw [hk]; exact h
theorem OwnTab.fresh {w : World} {B : Nat} {v : Value} {es : List (Int × Int)} (h : OwnTab w B v es) : FreshTab w B v es := by
  rcases h.2 with ⟨rfl, h0⟩ | ⟨g, cap, cur, rfl, hB, hg, h2, _, hs, ht⟩
  · exact .inl ⟨List.eq_nil_of_length_eq_zero h0, none, 0, rfl, fun _ => rfl⟩
  · have hlt := (Array.getElem?_eq_some_iff.1 hg).1
    have hh := h.tab
    by_cases he : es = []
    · subst he
      exact .inl ⟨rfl, _, cap, rfl, fun e => by cases e⟩
    · obtain ⟨a, c, e1, _, hrow⟩ := hh
      obtain ⟨g', e2, hat⟩ := hrow (List.length_pos_iff.2 he)
      simp at e1
      obtain ⟨rfl, rfl⟩ := e1
      simp at e2
      subst e2
      refine .inr ⟨g, cap, rfl, h2, hB, hlt, hat, fun i hi => ⟨?_, by simp [World.frozen?, hg]⟩⟩
      have hi' : i < cur.size := by rw [hs]; exact Nat.lt_of_lt_of_le hi (Nat.mul_le_mul_right _ h2)
      exact ⟨cur[i], by simp [World.cell?, hg, hi']⟩
theorem FreshTab.nil (w : World) (B : Nat) : FreshTab w B (.slice none 0 0) [] := .inl ⟨rfl, none, 0, rfl, fun _ => rfl⟩
theorem FreshTab.form {w : World} {B : Nat} {v : Value} {us : List (Int × Int)} (h : FreshTab w B v us) : ∃ a c, v = .slice a us.length c := by
  rcases h with ⟨rfl, a, cap, rfl, _⟩ | ⟨g, cap, rfl, _⟩
  · exact ⟨a, cap, rfl⟩
  · exact ⟨_, cap, rfl⟩
theorem FreshTab.mono {w : World} {B B' : Nat} {v : Value} {us : List (Int × Int)} (h : FreshTab w B v us) (hB : B' ≤ B) : FreshTab w B' v us := by
  rcases h with h | h
  · exact .inl h
  · exact .inr (h.mono hB)
theorem FreshTab.setCell {w : World} {B : Nat} {v : Value} {us : List (Int × Int)} (h : FreshTab w B v us) {a : Addr} (ha : a.block < B) (u : Value) : FreshTab (w.setCell a u) B v us := by
  rcases h with h | h
  · exact .inl h
  · exact .inr (h.setCell ha u)
theorem FreshTab.later {w w' : World} {B : Nat} {v : Value} {us : List (Int × Int)} (h : FreshTab w B v us) (hb : Below w.heap.size w w') : FreshTab w' B v us := h.below (Nat.le_refl _) hb
/-- What a table's own block is: none, or one behind B. -/
theorem FreshTab.block {w : World} {B : Nat} {v : Value} {us : List (Int × Int)} (h : FreshTab w B v us) (hu : us ≠ []) {k : Nat} (hk : v.ownBlock = some k) : B ≤ k ∧ k < w.heap.size := by
  rcases h with h | ⟨g, cap, rfl, _, hB, hl, _⟩
  · exact absurd h.1 hu
  · simp [Value.ownBlock] at hk
    subst hk
    exact ⟨hB, hl⟩
theorem TabRoom.fresh {w : World} {B : Nat} {v : Value} {es : List (Int × Int)} (h : TabRoom w B v es) : FreshTab w B v es := .inr h
/-- A table whose row lies elsewhere stays, when one row is marked. -/
theorem FreshTab.grown {w w' : World} {B : Nat} {v : Value} {us : List (Int × Int)} {row : Option Nat} (h : FreshTab w B v us) (hg : w.grownBy w' row) (hne : ∀ k, row = some k → k < B) : FreshTab w' B v us := by
  rcases h with h | ⟨g, cap, rfl, h1, h2, h3, h4, h5⟩
  · exact .inl h
  · have hn : some g ≠ row := fun e => by have := hne g e.symm; omega
    refine .inr ⟨g, cap, rfl, h1, h2, Nat.lt_of_lt_of_le h3 hg.size, h4.grown hg hn, fun i hi => ?_⟩
    obtain ⟨⟨u, hu⟩, hf⟩ := h5 i hi
    refine ⟨⟨u, cell_grown hu hg hn⟩, ?_⟩
    rw [World.frozen?_of_block (hg.block g h3 hn)]; exact hf
/-- Marks in a row that is behind B turn nothing below B. -/
theorem below_grown {w w' : World} {B : Nat} {row : Option Nat} (hg : w.grownBy w' row) (hr : ∀ k, row = some k → B ≤ k) (hB : B ≤ w.heap.size) : Below B w w' :=
  ⟨hg.os, hg.tape, hg.output, hg.size, fun k hk => hg.block k (Nat.lt_of_lt_of_le hk hB) fun e => by have := hr k e.symm; omega⟩

/-- An answer's table is marked: only a row of its own turns. -/
theorem markAny (k B : Nat) (v : Value) (us : List (Int × Int)) (w : World) (hn : k + 2 * us.length ≤ 1000000000000000) (ht : FreshTab w B v us) :
    Calls Tryz.prog 10 #[.agg #[v], .int .i64 k] w fun e w' => e = .returned (.int .i64 (k + 2 * us.length : Nat)) ∧ FreshTab w' B v (marksE k us.length) ∧ w.heap.size ≤ w'.heap.size ∧ ∃ row, w.grownBy w' row ∧ ∀ j, row = some j → v.ownBlock = some j ∧ B ≤ j ∧ j < w.heap.size ∧ us ≠ [] ∧ ∃ x, w.cell? ⟨j, 0, none⟩ = some (.int .i64 x) := by
  by_cases hu : us = []
  · subst hu
    rcases ht with ⟨_, a, cap, rfl, hc⟩ | ht
    · have HC : Hid (∀ w, Calls Tryz.prog 26 #[.slice a 0 cap, .int .i64 k] w fun e w' => e = .returned (.int .i64 k) ∧ w = w') := fun w => markEmpty a cap k w
      go_enter Tryz.func10, Tryz.ntmps10
      go_wp2_with (go_at_call 26; refine (HC.out _).mono ?_; rintro e w1 ⟨rfl, rfl⟩)
      go_ret
      exact ⟨rfl, .inl ⟨rfl, a, cap, rfl, hc⟩, by simp, none, World.grownBy_alloc w _ _, fun j hj => by cases hj⟩
    · obtain ⟨g, cap, rfl, _⟩ := ht
      have HC : Hid (∀ w, Calls Tryz.prog 26 #[.slice (some ⟨g, 0, none⟩) 0 cap, .int .i64 k] w fun e w' => e = .returned (.int .i64 k) ∧ w = w') := fun w => markEmpty _ cap k w
      simp only [List.length_nil]
      go_enter Tryz.func10, Tryz.ntmps10
      go_wp2_with (go_at_call 26; refine (HC.out _).mono ?_; rintro e w1 ⟨rfl, rfl⟩)
      go_ret
      exact ⟨rfl, .inl ⟨rfl, _, cap, rfl, fun e => by cases e⟩, by simp, none, World.grownBy_alloc w _ _, fun j hj => by cases hj⟩
  · refine (markFresh k B v us w hn ht).mono ?_
    rintro e w' ⟨rfl, h1, h2, h3⟩
    refine ⟨rfl, h1, h3, v.ownBlock, h2, fun j hj => ?_⟩
    obtain ⟨hB, hl⟩ := ht.block hu hj
    refine ⟨hj, hB, hl, hu, ?_⟩
    rcases ht with ht | ⟨g, cap, rfl, _, _, _, he, _⟩
    · exact absurd ht.1 hu
    · simp [Value.ownBlock] at hj
      subst hj
      exact ⟨_, (he 0 (List.length_pos_iff.2 hu)).1⟩

/-- .. from the mark 1 on. -/
theorem mark1 (m : Int) (B : Nat) (v : Value) (us : List (Int × Int)) (w : World) (hm : m = ((1 + 2 * us.length : Nat) : Int)) (hn : us.length ≤ 4194304) (ht : FreshTab w B v us) :
    Calls Tryz.prog 10 #[.agg #[v], .int .i64 1] w fun e w' => e = .returned (.int .i64 m) ∧ FreshTab w' B v (marksE 1 us.length) ∧ w.heap.size ≤ w'.heap.size ∧ ∃ row, w.grownBy w' row ∧ ∀ j, row = some j → v.ownBlock = some j ∧ B ≤ j ∧ j < w.heap.size ∧ us ≠ [] ∧ ∃ x, w.cell? ⟨j, 0, none⟩ = some (.int .i64 x) := by
  have := markAny 1 B v us w (by omega) ht
  rw [hm]
  exact this
theorem held1 (m : Int) (B : Nat) (v : Value) (n : Nat) (w : World) (hm : m = ((1 + 2 * n : Nat) : Int)) (hn : n ≤ 4194304) (ht : FreshTab w B v (marksE 1 n)) :
    Calls Tryz.prog 11 #[.agg #[v], .int .i64 1] w fun e w' => e = .returned (.int .i64 m) ∧ Below w.heap.size w w' := by
  have := heldFresh 1 B v n w (by omega) ht
  rw [hm]
  exact this

end Go.Proofs.YtpilmldcmpbabaaGreatDoor

/- A line as it goes outside, and RwrLine, of the program. Conditions: the table is ok; the text has at most 2^21 bytes; the variables that are read hold what they are laid with. -/
namespace Go.Proofs.YtpilmldcmpbabaaGreatDoor
open Go.RowKit Go.Sort

theorem says_ins {l : List UInt8} {a p : Int} (h : saysE l = some (a, p)) : insB a p = true := by
  unfold saysE at h
  split at h
  · split at h
    · split at h
      · rename_i hi
        simp at h
        obtain ⟨rfl, rfl⟩ := h
        exact hi
      · cases h
    · cases h
  · cases h
theorem lineE_none {es : List (Int × Int)} {l : List UInt8} (h : saysE l = none) : lineE es l = (es, l) := by unfold lineE; rw [h]
theorem lineE_some {es : List (Int × Int)} {l : List UInt8} {e : Int × Int} (h : saysE l = some e) : lineE es l = ((putE es e).1, if (putE es e).2 = 0 then noneL else lpL 50 (putE es e).2) := by
  unfold lineE
  rw [h]
  simp only
  split <;> rfl
theorem lineE_ok {es : List (Int × Int)} {l : List UInt8} (hm : mapB es = true) : mapB (lineE es l).1 = true := by
  rcases h : saysE l with _ | ⟨a, p⟩
  · rw [lineE_none h]; exact hm
  · rw [lineE_some h]; exact putE_ok hm (says_ins h)

set_option maxRecDepth 100000 in
set_option maxHeartbeats 1600000 in
theorem lineOutside_any (g1 g2 : Nat) (es : List (Int × Int)) (s : ByteArray) (w : World) (hs : s.size ≤ 2097152) (hb : Both w g1 g2 es) (hm : mapB es = true) (hv : ∀ w', Two g1 g2 w w' → VarsOk w') :
    Calls Tryz.prog 23 #[.agg #[.map (some g1), .map (some g2)], .string s] w fun e w' => e = .returned (.string ⟨(lineE es s.data.toList).2.toArray⟩) ∧ Both w' g1 g2 (lineE es s.data.toList).1 ∧ Two g1 g2 w w' := by
  have HBo : Hid (∀ w', Below w.heap.size w w' → Both w' g1 g2 es) := fun w' h => hb.later h
  have HV := Lib.hid hv
  have l1 := hb.lt.1
  have l2 := hb.lt.2
  clear hb hv
  rcases hx : saysE s.data.toList with _ | ⟨a, p⟩
  · have HB : Hid (∀ w, VarsOk w → Calls Tryz.prog 46 #[.string s] w fun e w' => e = .returned (.tuple #[.agg #[.int .i64 0, .int .i64 0], .bool false]) ∧ Below w.heap.size w w') := fun w hv => by have := implSays_any s w hs hv; rw [hx] at this; exact this
    have HE : Hid (lineE es s.data.toList = (es, s.data.toList)) := lineE_none hx
    rw [HE.out, str_same]
    clear hx HE hm
    go_enter Tryz.func23, Tryz.ntmps23
    go_wp2_with fail
    (go_at_call 46; refine (HB.out _ (HV.out _ (Two.of_below ((Below.refl _ _).alloc (Nat.le_refl _) _)))).mono ?_; rintro e w1 ⟨rfl, b1⟩; have B1 : Hid (Below w.heap.size w w1) := ((Below.refl _ _).alloc (Nat.le_refl _) _).trans (b1.mono (by simp)); clear b1)
    go_wp2_with fail
    go_ret
    have B2 : Below w.heap.size w (w1.alloc (.cells #[.int .i64 0, .int .i64 0] 63)) := B1.out.alloc B1.out.size _
    exact ⟨rfl, HBo.out _ B2, Two.of_below B2⟩
  · have HB : Hid (∀ w, VarsOk w → Calls Tryz.prog 46 #[.string s] w fun e w' => e = .returned (.tuple #[.agg #[.int .i64 a, .int .i64 p], .bool true]) ∧ Below w.heap.size w w') := fun w hv => by have := implSays_any s w hs hv; rw [hx] at this; exact this
    have hE := lineE_some (es := es) hx
    have hi := says_ins hx
    obtain ⟨us, hus⟩ : ∃ us, us = (putE es (a, p)).1 := ⟨_, rfl⟩
    obtain ⟨q, hq⟩ : ∃ q, q = (putE es (a, p)).2 := ⟨_, rfl⟩
    rw [← hus, ← hq] at hE
    have HG : Hid (∀ w, Both w g1 g2 es → Calls Tryz.prog 47 #[.agg #[.map (some g1), .map (some g2)], .agg #[.int .i64 a, .int .i64 p]] w fun e w' => e = .returned (.int .i64 q) ∧ Both w' g1 g2 us ∧ Two g1 g2 w w') := fun w h => by rw [hus, hq]; exact givePort_any g1 g2 es a p w h hm hi
    by_cases h0 : q = 0
    · rw [hE, if_pos h0]
      subst h0
      clear hE hx hus hq hm hi
      go_enter Tryz.func23, Tryz.ntmps23
      go_wp2_with fail
      (go_at_call 46; refine (HB.out _ (HV.out _ (Two.of_below ((Below.refl _ _).alloc (Nat.le_refl _) _)))).mono ?_; rintro e w1 ⟨rfl, b1⟩; have B1 : Hid (Below w.heap.size w w1) := ((Below.refl _ _).alloc (Nat.le_refl _) _).trans (b1.mono (by simp)); have t0 : ∀ o, (w1.alloc o).cell? ⟨w.heap.size, 0, none⟩ = some (.map (some g1)) := (fun o => by rw [cell_alloc_lt (by have := b1.size; simp at this; omega), b1.cell (by simp)]; simp); have t1 : ∀ o, (w1.alloc o).cell? ⟨w.heap.size, 1, none⟩ = some (.map (some g2)) := (fun o => by rw [cell_alloc_lt (by have := b1.size; simp at this; omega), b1.cell (by simp)]; simp); clear b1)
      have B2 : Hid (∀ o, Below w.heap.size w (w1.alloc o)) := fun o => B1.out.alloc B1.out.size o
      go_wp2_with fail
      (go_at_call 47; refine (HG.out _ (HBo.out _ (B2.out _))).mono ?_; rintro e w2 ⟨rfl, hb2, t2⟩; have HB2 := Lib.hid hb2; have T2 : Hid (Two g1 g2 w w2) := (Two.of_below (B2.out _)).trans t2; clear hb2 t2)
      go_wp2_with fail
      go_ret
      exact ⟨rfl, HB2.out, T2.out⟩
    · rw [hE, if_neg h0]
      have hqb : (q == 0) = false := by simpa using h0
      clear hE hx hus hq hm hi
      go_enter Tryz.func23, Tryz.ntmps23
      go_wp2_with fail
      (go_at_call 46; refine (HB.out _ (HV.out _ (Two.of_below ((Below.refl _ _).alloc (Nat.le_refl _) _)))).mono ?_; rintro e w1 ⟨rfl, b1⟩; have B1 : Hid (Below w.heap.size w w1) := ((Below.refl _ _).alloc (Nat.le_refl _) _).trans (b1.mono (by simp)); have t0 : ∀ o, (w1.alloc o).cell? ⟨w.heap.size, 0, none⟩ = some (.map (some g1)) := (fun o => by rw [cell_alloc_lt (by have := b1.size; simp at this; omega), b1.cell (by simp)]; simp); have t1 : ∀ o, (w1.alloc o).cell? ⟨w.heap.size, 1, none⟩ = some (.map (some g2)) := (fun o => by rw [cell_alloc_lt (by have := b1.size; simp at this; omega), b1.cell (by simp)]; simp); clear b1)
      have B2 : Hid (∀ o, Below w.heap.size w (w1.alloc o)) := fun o => B1.out.alloc B1.out.size o
      go_wp2_with fail
      (go_at_call 47; refine (HG.out _ (HBo.out _ (B2.out _))).mono ?_; rintro e w2 ⟨rfl, hb2, t2⟩; have HB2 := Lib.hid hb2; have T2 : Hid (Two g1 g2 w w2) := (Two.of_below (B2.out _)).trans t2; clear hb2 t2)
      go_wp2_with fail
      (go_at_call 48; refine (implLinPort_any 50 q _ (HV.out _ T2.out).tab).mono ?_; rintro e w3 ⟨rfl, b3⟩)
      go_wp2_with fail
      go_ret
      exact ⟨rfl, HB2.out.later b3, T2.out.trans (Two.of_below b3)⟩

/-- What RwrLine answers. -/
def rwrA (es : List (Int × Int)) (l : List UInt8) : List (Int × Int) × List UInt8 := if mapB es = true ∧ linB l = true then lineE es l else ([], [])

set_option maxRecDepth 100000 in
set_option maxHeartbeats 1600000 in
theorem implRwrLine_not (v : Value) (es : List (Int × Int)) (s : ByteArray) (w : World) (hn : es.length ≤ 4194304) (hs : s.size ≤ 2097152) (hwf : wfE es) (ht : TabAt w v es) (hno : (mapB es && linB s.data.toList) = false) :
    Calls Tryz.prog 8 #[.agg #[v], .string s] w fun e w' => e = .returned (.tuple #[.agg #[.slice none 0 0], .string ⟨#[]⟩]) ∧ Below w.heap.size w w' := by
  have HT := Lib.hid ht
  obtain ⟨ad, cap, rfl, hcap, hr⟩ := ht
  have hM : Hid (∀ w, TabAt w (.slice ad es.length cap) es → Calls Tryz.prog 20 #[.agg #[.slice ad es.length cap]] w fun e w' => e = .returned (.bool (mapB es)) ∧ Below w.heap.size w w') := fun w h => implMapOk_any _ es w hn hwf h
  have hL : Hid (∀ w, Calls Tryz.prog 21 #[.string s] w fun e w' => e = .returned (.bool (linB s.data.toList)) ∧ w = w') := fun w => implLin_any s w (by omega)
  clear hr hwf
  by_cases hm : mapB es = true
  · have hi : linB s.data.toList = false := by rw [hm] at hno; simpa using hno
    rw [hm] at hM
    rw [hi] at hL
    clear hno hm
    go_enter Tryz.func8, Tryz.ntmps8
    go_wp2_with (first
      | (go_at_call 20; refine (hM.out _ (HT.out.below (((Below.refl _ _).alloc (Nat.le_refl _) _).alloc (by simp) _))).mono ?_; rintro e w1 ⟨rfl, b1⟩; obtain ⟨_, cB, b01, z1⟩ := cell_two b1; have r0 := (cB 0).1; have g0 := (cB 0).2; simp at r0; clear cB)
      | (go_at_call 21; refine (hL.out _).mono ?_; rintro e w2 ⟨rfl, rfl⟩))
    refine bodyPost_ret (v := .tuple #[.agg #[.slice none 0 0], .string ⟨#[]⟩]) (by simp [results, Tryz.results8, go_sem, World.cell?_setCell_same _ _ _ r0]) rfl ⟨rfl, ?_⟩
    exact b01.setCell (by simp) _
  · have hm' : mapB es = false := by simpa using hm
    rw [hm'] at hM
    clear hno hm hm'
    go_enter Tryz.func8, Tryz.ntmps8
    go_wp2_with (go_at_call 20; refine (hM.out _ (HT.out.below (((Below.refl _ _).alloc (Nat.le_refl _) _).alloc (by simp) _))).mono ?_; rintro e w1 ⟨rfl, b1⟩; obtain ⟨_, cB, b01, z1⟩ := cell_two b1; have r0 := (cB 0).1; have g0 := (cB 0).2; simp at r0; clear cB)
    refine bodyPost_ret (v := .tuple #[.agg #[.slice none 0 0], .string ⟨#[]⟩]) (by simp [results, Tryz.results8, go_sem, World.cell?_setCell_same _ _ _ r0]) rfl ⟨rfl, ?_⟩
    exact b01.setCell (by simp) _

set_option maxRecDepth 100000 in
set_option maxHeartbeats 1600000 in
theorem implRwrLine_ok (v : Value) (es : List (Int × Int)) (s : ByteArray) (w : World) (hn : es.length ≤ 4194304) (hs : s.size ≤ 2097152) (ht : TabAt w v es) (hm : mapB es = true) (hl : linB s.data.toList = true) (hv : VarsOk w) :
    Calls Tryz.prog 8 #[.agg #[v], .string s] w fun e w' => ∃ g c, e = .returned (.tuple #[.agg #[.slice g (lineE es s.data.toList).1.length c], .string ⟨(lineE es s.data.toList).2.toArray⟩]) ∧ OwnTab w' w.heap.size (.slice g (lineE es s.data.toList).1.length c) (lineE es s.data.toList).1 ∧ Below w.heap.size w w' := by
  have HT := Lib.hid ht
  have hwf := mapB_wf hm
  obtain ⟨ad, cap, rfl, hcap, hr⟩ := ht
  have hM : Hid (∀ w, TabAt w (.slice ad es.length cap) es → Calls Tryz.prog 20 #[.agg #[.slice ad es.length cap]] w fun e w' => e = .returned (.bool true) ∧ Below w.heap.size w w') := fun w h => by rw [← hm]; exact implMapOk_any _ es w hn hwf h
  have hL : Hid (∀ w, Calls Tryz.prog 21 #[.string s] w fun e w' => e = .returned (.bool true) ∧ w = w') := fun w => by rw [← hl]; exact implLin_any s w (by omega)
  have HP : Hid (∀ w, TabAt w (.slice ad es.length cap) es → Calls Tryz.prog 22 #[.agg #[.slice ad es.length cap]] w fun e w' => ∃ g1 g2, e = .returned (.agg #[.map (some g1), .map (some g2)]) ∧ w.heap.size ≤ g1 ∧ w.heap.size ≤ g2 ∧ Both w' g1 g2 es ∧ Below w.heap.size w w') := fun w h => portsOf_any _ es w hn hwf h
  have HV : Hid (∀ w', Below w.heap.size w w' → VarsOk w') := fun w' h => hv.below h
  have hmu : mapB (lineE es s.data.toList).1 = true := lineE_ok hm
  obtain ⟨us, hus⟩ : ∃ us, us = (lineE es s.data.toList).1 := ⟨_, rfl⟩
  obtain ⟨q, hq⟩ : ∃ q, q = (lineE es s.data.toList).2.toArray := ⟨_, rfl⟩
  rw [← hus] at hmu
  have HG : Hid (∀ g1 g2 w, Both w g1 g2 es → (∀ w', Two g1 g2 w w' → VarsOk w') → Calls Tryz.prog 23 #[.agg #[.map (some g1), .map (some g2)], .string s] w fun e w' => e = .returned (.string ⟨q⟩) ∧ Both w' g1 g2 us ∧ Two g1 g2 w w') := fun g1 g2 w h h2 => by rw [hus, hq]; exact lineOutside_any g1 g2 es s w hs h hm h2
  have HO : Hid (∀ g1 g2 w, Both w g1 g2 us → Calls Tryz.prog 24 #[.agg #[.map (some g1), .map (some g2)]] w fun e w' => ∃ a c, e = .returned (.agg #[.slice a us.length c]) ∧ OwnTab w' w.heap.size (.slice a us.length c) us ∧ Below w.heap.size w w') := fun g1 g2 w h => tableOf_any g1 g2 us w h (valsL_ok hmu) (by have := mapB_le hmu; omega)
  rw [← hus, ← hq]
  clear hr hm hus hq hmu hwf hcap hn hl hs hv
  go_enter Tryz.func8, Tryz.ntmps8
  go_wp2_with fail
  (go_at_call 20; refine (hM.out _ (HT.out.below (((Below.refl _ _).alloc (Nat.le_refl _) _).alloc (by simp) _))).mono ?_; rintro e w1 ⟨rfl, b1⟩; obtain ⟨cA, cB, b01, z1⟩ := cell_two b1; have t0 := (cA 0).1; have r0 := (cB 0).1; have g0 := (cB 0).2; simp at t0 r0; have B1 := Lib.hid b01; clear cA cB b1 b01)
  go_wp2_with fail
  (go_at_call 21; refine (hL.out _).mono ?_; rintro e w2 ⟨rfl, rfl⟩)
  go_wp2_with fail
  (go_at_call 22; refine (HP.out _ (HT.out.below B1.out)).mono ?_; rintro e w3 ⟨g1, g2, rfl, l1, l2, hb, b3⟩; have z3 := b3.size; have m1 := hb.lt.1; have m2 := hb.lt.2; have HB : Hid (∀ o, Both (w3.alloc o) g1 g2 es) := (fun o => hb.later ((Below.refl _ _).alloc (Nat.le_refl _) o)); have B3 : Hid (Below w.heap.size w w3) := B1.out.trans (b3.mono (by omega)); have r3 : ∀ o, (w3.alloc o).cell? ⟨w.heap.size + 1, 0, none⟩ = some (.slice none 0 0) := (fun o => by rw [cell_alloc_lt (by omega), b3.cell (by simp; omega)]; exact r0); have g03 : ∀ o, (w3.alloc o).frozen? ⟨w.heap.size + 1, 0, none⟩ = false := (fun o => by rw [frozen_alloc_lt (by omega), b3.frozen (by simp; omega)]; exact g0); clear hb b3)
  have B4 : Hid (∀ o w', Two g1 g2 (w3.alloc o) w' → Below w.heap.size w w') := fun o w' h => (B3.out.alloc B3.out.size _).trans (h.below (by simp; omega) (by omega) (by omega))
  go_wp2_with fail
  (go_at_call 23; refine (HG.out g1 g2 _ (HB.out _) (fun w' h => HV.out _ (B4.out _ _ h))).mono ?_; rintro e w4 ⟨rfl, hb4, t4⟩; have HB4 := Lib.hid hb4; have z4 : w3.heap.size + 1 ≤ w4.heap.size := (by have := t4.size; simpa using this); have p0 : w4.cell? ⟨w3.heap.size, 0, none⟩ = some (.map (some g1)) := (by rw [t4.cell (by simp) (by omega) (by omega)]; simp); have p1 : w4.cell? ⟨w3.heap.size, 1, none⟩ = some (.map (some g2)) := (by rw [t4.cell (by simp) (by omega) (by omega)]; simp); have r4 : w4.cell? ⟨w.heap.size + 1, 0, none⟩ = some (.slice none 0 0) := (by rw [t4.cell (by simp; omega) (by omega) (by omega)]; exact r3 _); have g04 : w4.frozen? ⟨w.heap.size + 1, 0, none⟩ = false := (by rw [t4.frozen (by simp; omega) (by omega) (by omega)]; exact g03 _); have B5 : Hid (Below w.heap.size w w4) := B4.out _ _ t4; clear hb4 t4)
  go_wp2_with fail
  (go_at_call 24; refine (HO.out g1 g2 _ HB4.out).mono ?_; rintro e w5 ⟨g5, c5, rfl, o5, b5⟩; have O5 := Lib.hid o5; have r5 : w5.cell? ⟨w.heap.size + 1, 0, none⟩ = some (.slice none 0 0) := (by rw [b5.cell (by simp; omega)]; exact r4); have g05 : w5.frozen? ⟨w.heap.size + 1, 0, none⟩ = false := (by rw [b5.frozen (by simp; omega)]; exact g04); have B6 : Hid (Below w.heap.size w w5) := B5.out.trans (b5.mono (by omega)); clear o5 b5)
  go_wp2_with fail
  refine bodyPost_ret (v := .tuple #[.agg #[.slice g5 us.length c5], .string ⟨q⟩]) (by simp [results, Tryz.results8, go_sem, World.cell?_setCell_same _ _ _ r5]) rfl ⟨_, _, rfl, ?_, B6.out.setCell (by simp) _⟩
  exact OwnTab.mono (B := w4.heap.size) (ownsRow_setCell_below (a := ⟨w.heap.size + 1, 0, none⟩) O5.out (by simp; omega) _) (by omega)

end Go.Proofs.YtpilmldcmpbabaaGreatDoor

/- RwrLine of the specification. Conditions: at most 2^22 ends; the text has at most 2^21 bytes. -/
namespace Go.Proofs.YtpilmldcmpbabaaGreatDoor
open Go.RowKit Go.Sort

set_option maxRecDepth 100000 in
set_option maxHeartbeats 1600000 in
/-- RwrLine of what is no table, or of no line: nothing. -/
theorem specRwrLine_not (v : Value) (es : List (Int × Int)) (s : ByteArray) (w : World) (hn : es.length ≤ 4194304) (hs : s.size ≤ 2097152) (ht : TabAt w v es) (hno : (mapB es && linB s.data.toList) = false) :
    Calls Tryz.prog 6 #[.agg #[v], .string s] w fun e w' => e = .returned (.tuple #[.agg #[.slice none 0 0], .string ⟨#[]⟩]) ∧ Below w.heap.size w w' := by
  have HT := Lib.hid ht
  obtain ⟨ad, cap, rfl, hcap, hr⟩ := ht
  have hM : Hid (∀ w, TabAt w (.slice ad es.length cap) es → Calls Tryz.prog 15 #[.agg #[.slice ad es.length cap]] w fun e w' => e = .returned (.bool (mapB es)) ∧ Below w.heap.size w w') := fun w h => specMapOk_any _ es w hn h
  have hL : Hid (∀ w, Calls Tryz.prog 16 #[.string s] w fun e w' => e = .returned (.bool (linB s.data.toList)) ∧ w = w') := fun w => specLin_any s w (by omega)
  clear hr
  by_cases hm : mapB es = true
  · have hi : linB s.data.toList = false := by rw [hm] at hno; simpa using hno
    rw [hm] at hM
    rw [hi] at hL
    clear hno hm hi
    go_enter Tryz.func6, Tryz.ntmps6
    go_wp2_with (first
      | (go_at_call 15; refine (hM.out _ (HT.out.below (((Below.refl _ _).alloc (Nat.le_refl _) _).alloc (by simp) _))).mono ?_; rintro e w1 ⟨rfl, b1⟩; obtain ⟨cA, cB, b01, z1⟩ := cell_two b1; have r0 := (cB 0).1; have g0 := (cB 0).2; simp at r0; clear cA cB)
      | (go_at_call 16; refine (hL.out _).mono ?_; rintro e w2 ⟨rfl, rfl⟩))
    refine bodyPost_ret (v := .tuple #[.agg #[.slice none 0 0], .string ⟨#[]⟩]) (by simp [results, Tryz.results6, go_sem, World.cell?_setCell_same _ _ _ r0]) rfl ⟨rfl, ?_⟩
    exact b01.setCell (by simp) _
  · have hm' : mapB es = false := by simpa using hm
    rw [hm'] at hM
    clear hno hm hm'
    go_enter Tryz.func6, Tryz.ntmps6
    go_wp2_with (go_at_call 15; refine (hM.out _ (HT.out.below (((Below.refl _ _).alloc (Nat.le_refl _) _).alloc (by simp) _))).mono ?_; rintro e w1 ⟨rfl, b1⟩; obtain ⟨cA, cB, b01, z1⟩ := cell_two b1; have r0 := (cB 0).1; have g0 := (cB 0).2; simp at r0; clear cA cB)
    refine bodyPost_ret (v := .tuple #[.agg #[.slice none 0 0], .string ⟨#[]⟩]) (by simp [results, Tryz.results6, go_sem, World.cell?_setCell_same _ _ _ r0]) rfl ⟨rfl, ?_⟩
    exact b01.setCell (by simp) _

set_option maxRecDepth 100000 in
set_option maxHeartbeats 1600000 in
/-- RwrLine of a table and a line: the table then, in memory of the call's own, and the line. -/
theorem specRwrLine_ok (v : Value) (es : List (Int × Int)) (s : ByteArray) (w : World) (hn : es.length ≤ 4194304) (hs : s.size ≤ 2097152) (ht : TabAt w v es) (hm : mapB es = true) (hi : linB s.data.toList = true) :
    Calls Tryz.prog 6 #[.agg #[v], .string s] w fun e w' => ∃ g c, e = .returned (.tuple #[.agg #[.slice (some g) (lineE es s.data.toList).1.length c], .string ⟨(lineE es s.data.toList).2.toArray⟩]) ∧ OwnTab w' w.heap.size (.slice (some g) (lineE es s.data.toList).1.length c) (lineE es s.data.toList).1 ∧ Below w.heap.size w w' := by
  have HT := Lib.hid ht
  obtain ⟨ad, cap, rfl, hcap, hr⟩ := ht
  have hM : Hid (∀ w, TabAt w (.slice ad es.length cap) es → Calls Tryz.prog 15 #[.agg #[.slice ad es.length cap]] w fun e w' => e = .returned (.bool true) ∧ Below w.heap.size w w') := fun w h => by rw [← hm]; exact specMapOk_any _ es w hn h
  have hL : Hid (∀ w, Calls Tryz.prog 16 #[.string s] w fun e w' => e = .returned (.bool true) ∧ w = w') := fun w => by rw [← hi]; exact specLin_any s w (by omega)
  have hP0 : Hid (∀ (B : Nat) (ad : Addr) (cap : Nat) (w : World), B ≤ w.heap.size → OwnTab w B (.slice (some ad) es.length cap) es → Calls Tryz.prog 17 #[.agg #[.slice (some ad) es.length cap], .string s] w fun e w' => ∃ g c, e = .returned (.tuple #[.agg #[.slice (some g) (lineE es s.data.toList).1.length c], .string ⟨(lineE es s.data.toList).2.toArray⟩]) ∧ OwnTab w' B (.slice (some g) (lineE es s.data.toList).1.length c) (lineE es s.data.toList).1 ∧ Below w.heap.size w w') := fun B ad cap w h1 h2 => specLine_any B ad cap es s w hn hs h1 h2
  have hC : Hid (∀ wx, TabAt wx (.slice ad es.length cap) es → Calls Tryz.prog 18 #[.agg #[.slice ad es.length cap]] wx fun e w' => ∃ g c, e = .returned (.agg #[.slice (some g) es.length c]) ∧ OwnTab w' wx.heap.size (.slice (some g) es.length c) es ∧ Below wx.heap.size wx w') := fun wx h => specCopy_any _ es wx hn h
  obtain ⟨us, hus⟩ : ∃ us, us = (lineE es s.data.toList).1 := ⟨_, rfl⟩
  obtain ⟨q, hq⟩ : ∃ q, q = (lineE es s.data.toList).2.toArray := ⟨_, rfl⟩
  have hP : Hid (∀ (B : Nat) (ad : Addr) (cap : Nat) (w : World), B ≤ w.heap.size → OwnTab w B (.slice (some ad) es.length cap) es → Calls Tryz.prog 17 #[.agg #[.slice (some ad) es.length cap], .string s] w fun e w' => ∃ g c, e = .returned (.tuple #[.agg #[.slice (some g) us.length c], .string ⟨q⟩]) ∧ OwnTab w' B (.slice (some g) us.length c) us ∧ Below w.heap.size w w') := by rw [hus, hq]; exact hP0
  rw [← hus, ← hq]
  clear hr hm hi hus hq hP0
  go_enter Tryz.func6, Tryz.ntmps6
  go_upto_region 3 with (first
    | (go_at_call 15; refine (hM.out _ (HT.out.below (((Below.refl _ _).alloc (Nat.le_refl _) _).alloc (by simp) _))).mono ?_; rintro e w1 ⟨rfl, b1⟩; obtain ⟨cA, cB, b01, z1⟩ := cell_two b1; have t0 := (cA 0).1; have r0 := (cB 0).1; have g0 := (cB 0).2; simp at t0 r0; clear cA cB b1)
    | (go_at_call 16; refine (hL.out _).mono ?_; rintro e w2 ⟨rfl, rfl⟩))
  have B01 := Lib.hid b01
  clear b01
  go_wp2_with fail
  (go_at_call 18; refine (hC.out _ (HT.out.below B01.out)).mono ?_; rintro e w3 ⟨g3, c3, rfl, o3, b3⟩; have O3 := Lib.hid o3; have B3 := Lib.hid b3; clear o3 b3)
  have r3 : w3.cell? ⟨w.heap.size + 1, 0, none⟩ = some (.slice none 0 0) := (by rw [B3.out.cell (by simp; omega)]; exact r0)
  have g03 : w3.frozen? ⟨w.heap.size + 1, 0, none⟩ = false := (by rw [B3.out.frozen (by simp; omega)]; exact g0)
  have z3 := B3.out.size
  go_wp2_with fail
  (go_at_call 17; refine (hP.out w1.heap.size _ _ _ B3.out.size O3.out).mono ?_; rintro e w4 ⟨g4, c4, rfl, o4, b4⟩; have O4 := Lib.hid o4; have B4 := Lib.hid b4; clear o4 b4)
  have r4 : w4.cell? ⟨w.heap.size + 1, 0, none⟩ = some (.slice none 0 0) := (by rw [B4.out.cell (by simp; omega)]; exact r3)
  have g04 : w4.frozen? ⟨w.heap.size + 1, 0, none⟩ = false := (by rw [B4.out.frozen (by simp; omega)]; exact g03)
  go_wp2_with fail
  refine bodyPost_ret (v := .tuple #[.agg #[.slice (some g4) us.length c4], .string ⟨q⟩]) (by simp [results, Tryz.results6, go_sem, World.cell?_setCell_same _ _ _ r4]) rfl ⟨_, _, rfl, ?_, ?_⟩
  · exact OwnTab.mono (B := w1.heap.size) (ownsRow_setCell_below O4.out (by simp; omega) _) (by omega)
  · exact ((B01.out.trans (B3.out.mono (by omega))).trans (B4.out.mono (by omega))).setCell (by simp) _

end Go.Proofs.YtpilmldcmpbabaaGreatDoor

/- RwrLine of the program and of the specification, in one form. Conditions: at most 2^22 ends; all numbers are ints; the text has at most 2^21 bytes; the variables that are read hold what they are laid with. -/
namespace Go.Proofs.YtpilmldcmpbabaaGreatDoor
open Go.RowKit

theorem putE_le' {es : List (Int × Int)} {e : Int × Int} (h : es.length ≤ 6) : (putE es e).1.length ≤ 6 := by
  unfold putE
  split
  · exact h
  · split
    · exact h
    · simp; omega
theorem rwrA_yes {es : List (Int × Int)} {l : List UInt8} (h : (mapB es && linB l) = true) : rwrA es l = lineE es l := if_pos (by simpa using h)
theorem rwrA_not {es : List (Int × Int)} {l : List UInt8} (h : (mapB es && linB l) = false) : rwrA es l = ([], []) := if_neg (by simpa using h)
theorem rwrA_le (es : List (Int × Int)) (l : List UInt8) : (rwrA es l).1.length ≤ 6 := by
  by_cases h : (mapB es && linB l) = true
  · rw [rwrA_yes h]
    exact mapB_le (lineE_ok (by simp at h; exact h.1))
  · rw [rwrA_not (by simpa using h)]
    simp

theorem specRwrA (v : Value) (es : List (Int × Int)) (s : ByteArray) (w : World) (hn : es.length ≤ 4194304) (hs : s.size ≤ 2097152) (ht : TabAt w v es) :
    Calls Tryz.prog 6 #[.agg #[v], .string s] w fun e w' => ∃ g c, e = .returned (.tuple #[.agg #[.slice g (rwrA es s.data.toList).1.length c], .string ⟨(rwrA es s.data.toList).2.toArray⟩]) ∧ FreshTab w' w.heap.size (.slice g (rwrA es s.data.toList).1.length c) (rwrA es s.data.toList).1 ∧ Below w.heap.size w w' := by
  by_cases h : (mapB es && linB s.data.toList) = true
  · rw [rwrA_yes h]
    simp only [Bool.and_eq_true] at h
    refine (specRwrLine_ok v es s w hn hs ht h.1 h.2).mono ?_
    rintro e w' ⟨g, c, rfl, h1, h2⟩
    exact ⟨_, _, rfl, h1.fresh, h2⟩
  · have h' : (mapB es && linB s.data.toList) = false := by simpa using h
    rw [rwrA_not h']
    refine (specRwrLine_not v es s w hn hs ht h').mono ?_
    rintro e w' ⟨rfl, h2⟩
    exact ⟨_, _, rfl, FreshTab.nil _ _, h2⟩

theorem implRwrA (v : Value) (es : List (Int × Int)) (s : ByteArray) (w : World) (hn : es.length ≤ 4194304) (hs : s.size ≤ 2097152) (hwf : wfE es) (ht : TabAt w v es) (hv : VarsOk w) :
    Calls Tryz.prog 8 #[.agg #[v], .string s] w fun e w' => ∃ g c, e = .returned (.tuple #[.agg #[.slice g (rwrA es s.data.toList).1.length c], .string ⟨(rwrA es s.data.toList).2.toArray⟩]) ∧ FreshTab w' w.heap.size (.slice g (rwrA es s.data.toList).1.length c) (rwrA es s.data.toList).1 ∧ Below w.heap.size w w' := by
  by_cases h : (mapB es && linB s.data.toList) = true
  · rw [rwrA_yes h]
    simp only [Bool.and_eq_true] at h
    refine (implRwrLine_ok v es s w hn hs ht h.1 h.2 hv).mono ?_
    rintro e w' ⟨g, c, rfl, h1, h2⟩
    exact ⟨_, _, rfl, h1.fresh, h2⟩
  · have h' : (mapB es && linB s.data.toList) = false := by simpa using h
    rw [rwrA_not h']
    refine (implRwrLine_not v es s w hn hs hwf ht h').mono ?_
    rintro e w' ⟨rfl, h2⟩
    exact ⟨_, _, rfl, FreshTab.nil _ _, h2⟩

end Go.Proofs.YtpilmldcmpbabaaGreatDoor

/- An argument's table, wherever it lies: how its ends become the program's. Condition: at most 2^22 ends. -/
namespace Go.Proofs.YtpilmldcmpbabaaGreatDoor
open Go.RowKit Go.Sort

theorem Addr.add_block' (a : Addr) (i : Nat) : (a.add i).block = a.block := by unfold Addr.add; split <;> rfl
theorem add_add' (a : Addr) (i j : Nat) : (a.add i).add j = a.add (i + j) := by
  unfold Addr.add; split <;> split <;> simp_all <;> omega
theorem add_one' (a : Addr) : a.add 1 = ⟨a.block, a.off + 1, none⟩ := rfl
/-- A slice of ends lies in the world, at any address. -/
def ArgTab (w : World) (v : Value) (es : List (Int × Int)) : Prop := ∃ a cap, v = .slice a es.length cap ∧ (es.length ≤ cap ∧ (a = none → cap = 0)) ∧ (0 < es.length → ∃ x, a = some x ∧ x.block < w.heap.size ∧ ∀ i (hi : i < es.length), w.cell? (x.add (i * 2)) = some (.int .i64 es[i].1) ∧ w.cell? (x.add (i * 2 + 1)) = some (.int .i64 es[i].2))
theorem ArgTab.below {w w' : World} {v : Value} {es : List (Int × Int)} (h : ArgTab w v es) (hb : Below w.heap.size w w') : ArgTab w' v es := by
  obtain ⟨a, cap, rfl, hc, hr⟩ := h
  refine ⟨a, cap, rfl, hc, fun h => ?_⟩
  obtain ⟨x, rfl, hx, hrow⟩ := hr h
  exact ⟨x, rfl, Nat.lt_of_lt_of_le hx hb.size, fun i hi => by
    rw [hb.cell (p := x.add (i * 2)) (by rw [Addr.add_block']; exact hx), hb.cell (p := x.add (i * 2 + 1)) (by rw [Addr.add_block']; exact hx)]; exact hrow i hi⟩

set_option maxRecDepth 100000 in
set_option maxHeartbeats 800000 in
theorem toEndsArg (v : Value) (es : List (Int × Int)) (w : World) (hn : es.length ≤ 4194304) (ht : ArgTab w v es) :
    Calls Tryz.prog 19 #[v] w fun e w' => ∃ u, e = .returned u ∧ TabRoom w' w.heap.size u es ∧ Below w.heap.size w w' := by
  obtain ⟨ad, cap, rfl, hcap, hr⟩ := ht
  obtain ⟨i0, hi, hz0, hz1, hz2⟩ := info_parts infoEnd
  have HR := Lib.hid hr
  clear hr
  go_enter Tryz.func19, Tryz.ntmps19
  go_wp2_with (at_make; refine wpList_make_full _ rfl (.tmp 6) (.tmp 6) 26 rfl w.heap.size 63 i0 (.agg #[.int .i64 0, .int .i64 0]) 2 (by rfl) hi hz0 hz1 .i64 .i64 (es.length : Int) (es.length : Int) es.length (by rfl) (by rfl) rfl rfl (by rw [hz2]; omega) (by unfold maxLen; omega) (Nat.le_refl _) ?_; intro w1 hown hgrow)
  have R1 : Hid (Room w1 w.heap.size (es.length * 2) ∧ w.heap.size ≤ w.heap.size ∧ w.heap.size < w1.heap.size) := own_room hown
  have B1 : Hid (Below w.heap.size w w1) := (Below.refl _ _).grown hgrow (Nat.le_refl _) (fun k hk => by cases hk)
  clear hown hgrow
  go_loopw [4] (fun i wr => ∃ k : Nat, k ≤ es.length ∧ i = .int .i64 k ∧ EndsAt wr w.heap.size (es.take k) ∧ Room wr w.heap.size (es.length * 2) ∧ Below w.heap.size w wr ∧ w.heap.size < wr.heap.size) (fun i _ => es.length - (intOf i).toNat)
  case atStart => exact ⟨0, Nat.zero_le _, rfl, fun i hi => by simp at hi, R1.out.1, B1.out, R1.out.2.2⟩
  case round =>
    obtain ⟨k, hk, rfl, he, hro, hb, hsz⟩ := hrel
    have HE := Lib.hid he
    have HO := Lib.hid hro
    clear he hro
    by_cases hlt : k < es.length
    · obtain ⟨x, rfl, hx, hrow⟩ := HR.out (by omega)
      obtain ⟨r0, r1⟩ := hrow k hlt
      rw [← hb.cell (p := x.add (k * 2)) (by rw [Addr.add_block']; exact hx)] at r0
      rw [← hb.cell (p := x.add (k * 2 + 1)) (by rw [Addr.add_block']; exact hx)] at r1
      rw [← add_add', add_one'] at r1
      obtain ⟨⟨a, p⟩, hap⟩ : ∃ x, x = es[k] := ⟨_, rfl⟩
      rw [← hap] at r0 r1
      simp only at r0 r1
      have HA := Lib.hid hap
      have hk2 : (k : Int) ≤ (cap : Int) := by have := hcap.1; omega
      clear hrow hap
      go_wp2_with (go_at_call 40; refine (toEnd_any a p _).mono ?_; rintro e w2 ⟨rfl, b2⟩; have hr2 := HO.out.below b2 hsz; obtain ⟨x0, hx0⟩ := (hr2 (k * 2) (by omega)).1; have f0 := (hr2 (k * 2) (by omega)).2; obtain ⟨x1, hx1⟩ := (hr2 (k * 2 + 1) (by omega)).1; have f1 := (hr2 (k * 2 + 1) (by omega)).2)
      go_roundw
      case rel =>
        refine ⟨k + 1, by omega, by go_num, EndsAt.push (es := es) (m := es.length * 2) (by simp; omega) (by rw [List.take_take, Nat.min_eq_left (by omega)]) hk (fun h => by rw [HA.out]; simp) (HE.out.below b2 hsz) hr2 (by omega), (hr2.set (by omega) _).set (by omega) _, ?_, ?_⟩
        · exact ((hb.trans (b2.mono (by omega))).setCell (by simp) _).setCell (by simp) _
        · have := b2.size; simp; omega
      case measure => simp [intOf]; omega
    · have hkn : k = es.length := by omega
      subst hkn
      go_wp2
      go_ret
      refine ⟨_, rfl, ⟨w.heap.size, es.length, rfl, Nat.le_refl _, Nat.le_refl _, hsz, by simpa using HE.out, HO.out⟩, hb⟩

set_option maxRecDepth 100000 in
set_option maxHeartbeats 800000 in
theorem toTabArg (v : Value) (es : List (Int × Int)) (w : World) (hn : es.length ≤ 4194304) (ht : ArgTab w v es) :
    Calls Tryz.prog 7 #[.agg #[v]] w fun e w' => ∃ u, e = .returned (.agg #[u]) ∧ TabRoom w' w.heap.size u es ∧ Below w.heap.size w w' := by
  have HT := Lib.hid ht
  obtain ⟨ad, cap, rfl, hcap, hr⟩ := ht
  clear hr
  go_enter Tryz.func7, Tryz.ntmps7
  go_wp2_with (go_at_call 19; refine (toEndsArg _ es _ hn (HT.out.below ((((Below.refl _ _).alloc (Nat.le_refl _) _).alloc (by simp) _).alloc (by simp; omega) _))).mono ?_; rintro e w1 ⟨u, rfl, hu, b1⟩; obtain ⟨cA, cB, cC, b01, z1⟩ := cell_three b1; have t0 := (cA 0).1; have r0 := (cB 0).1; have g0 := (cB 0).2; have o0 := (cC 0).1; have p0 := (cC 0).2; simp at t0 r0 o0; obtain ⟨gu, cu, rfl, hu'⟩ : ∃ g c, u = .slice (some ⟨g, 0, none⟩) es.length c ∧ TabRoom w1 (w.heap.size + 3) u es := (by obtain ⟨g, c, q, hh⟩ := hu; exact ⟨g, c, q, TabRoom.mono ⟨g, c, q, hh⟩ (by simp)⟩); have HU := Lib.hid hu'; clear hu hu' cA cB cC)
  have q0 : (w1.setCell ⟨w.heap.size + 1 + 1, 0, none⟩ (.slice (some ⟨gu, 0, none⟩) es.length cu)).cell? ⟨w.heap.size + 1, 0, none⟩ = some (.slice none 0 0) := by
    rw [World.cell?_setCell_far _ ⟨w.heap.size + 1 + 1, 0, none⟩ ⟨w.heap.size + 1, 0, none⟩ _ (by show w.heap.size + 1 + 1 ≠ w.heap.size + 1; omega)]; exact r0
  refine bodyPost_ret (v := .agg #[.slice (some ⟨gu, 0, none⟩) es.length cu]) (by simp [results, Tryz.results7, go_sem, World.cell?_setCell_same _ _ _ q0]) rfl ⟨_, rfl, ?_, ?_⟩
  · exact ((HU.out.setCell (a := ⟨w.heap.size + 1 + 1, 0, none⟩) (by simp) _).setCell (a := ⟨w.heap.size + 1, 0, none⟩) (by simp) _).mono (by omega)
  · exact (b01.setCell (by simp; omega) _).setCell (by simp) _

theorem lawSzSArg (ad : Option Addr) (n cap : Nat) (left : Int) (w : World) (hn : n ≤ 9223372036854775807) (h0 : 0 ≤ left) (h1 : left ≤ 4194304) :
    Calls Tryz.prog 14 #[.slice ad n cap, .int .i64 left] w fun e w' => e = .returned (.int .i64 (if left < (n : Int) then -1 else left - n)) ∧ w = w' := by
  by_cases h : left < (n : Int)
  all_goals
    go_enter Tryz.func14, Tryz.ntmps14
    go_wp2
    go_ret
    exact ⟨ret_int (by first | rfl | (rw [if_pos h]; rfl) | (rw [if_neg (by omega)]) | (rw [if_neg (by omega)]; rfl)), rfl⟩

theorem lawSzArg (v : Value) (es : List (Int × Int)) (left : Int) (w : World) (hn : es.length ≤ 9223372036854775807) (h0 : 0 ≤ left) (h1 : left ≤ 4194304) (ht : ArgTab w v es) :
    Calls Tryz.prog 5 #[.agg #[v], .int .i64 left] w fun e w' => e = .returned (.int .i64 (if left < (es.length : Int) then -1 else left - es.length)) ∧ Below w.heap.size w w' := by
  obtain ⟨ad, cap, rfl, _, _⟩ := ht
  by_cases h : left < (es.length : Int)
  · have hc : ∀ w, Calls Tryz.prog 14 #[.slice ad es.length cap, .int .i64 left] w fun e w' => e = .returned (.int .i64 (-1)) ∧ w = w' := fun w => by
      have := lawSzSArg ad es.length cap left w hn h0 h1
      rwa [if_pos h] at this
    have HC := Lib.hid hc
    clear hc
    rw [if_pos h]
    clear h
    go_enter Tryz.func5, Tryz.ntmps5
    go_wp2_with (go_at_call 14; refine (HC.out _).mono ?_; rintro e w' ⟨rfl, rfl⟩)
    go_ret
    exact ⟨rfl, (Below.refl _ _).alloc (Nat.le_refl _) _⟩
  · obtain ⟨q, hq⟩ : ∃ q : Int, q = left - es.length := ⟨_, rfl⟩
    have hc : ∀ w, Calls Tryz.prog 14 #[.slice ad es.length cap, .int .i64 left] w fun e w' => e = .returned (.int .i64 q) ∧ w = w' := fun w => by
      have := lawSzSArg ad es.length cap left w hn h0 h1
      rwa [if_neg h, ← hq] at this
    have HC := Lib.hid hc
    have h0q : 0 ≤ q := by omega
    clear hc
    rw [if_neg h, ← hq]
    clear h hq
    go_enter Tryz.func5, Tryz.ntmps5
    go_wp2_with (go_at_call 14; refine (HC.out _).mono ?_; rintro e w' ⟨rfl, rfl⟩)
    go_ret
    exact ⟨rfl, (Below.refl _ _).alloc (Nat.le_refl _) _⟩

end Go.Proofs.YtpilmldcmpbabaaGreatDoor

/- The law of RwrLine. Conditions: the argument's ends lie in the machine's memory, at any address; the variables that are read hold what they are laid with. -/
namespace Go.Proofs.YtpilmldcmpbabaaGreatDoor
open Go.RowKit Go.Sort

set_option maxRecDepth 100000 in
set_option maxHeartbeats 3200000 in
theorem lawRwrLine_any (v : Value) (es : List (Int × Int)) (s : ByteArray) (w : World) (hL : es.length ≤ 9223372036854775807) (ht : ArgTab w v es) (hwf : wfE es) (_ : s.size ≤ maxLen) (hv : VarsOk w) :
    Calls Tryz.prog 3 #[.agg #[v], .string s] w fun e w' => e = .returned (.bool true) ∧ Below w.heap.size w w' := by
  have HT := Lib.hid ht
  obtain ⟨ad, cap, rfl, _, _⟩ := ht
  rcases Nat.lt_or_ge 1048576 s.size with hz | hz
  · clear hv hwf
    go_enter Tryz.func3, Tryz.ntmps3
    go_wp2_with fail
    go_ret
    exact ⟨rfl, (Below.refl _ _).alloc (Nat.le_refl _) _⟩
  have hz2 : (s.size : Int) ≤ 1048576 := by omega
  rcases Nat.lt_or_ge 1048576 es.length with h | h
  · have HS : Hid (∀ w, ArgTab w (.slice ad es.length cap) es → Calls Tryz.prog 5 #[.agg #[.slice ad es.length cap], .int .i64 1048576] w fun e w' => e = .returned (.int .i64 (-1)) ∧ Below w.heap.size w w') := fun w ht => by
      have := lawSzArg _ es 1048576 w hL (by decide) (by decide) ht
      rwa [if_pos (by omega)] at this
    clear hwf hv
    go_enter Tryz.func3, Tryz.ntmps3
    go_wp2_with (go_at_call 5; refine (HS.out _ (HT.out.below ((Below.refl _ _).alloc (Nat.le_refl _) _))).mono ?_; rintro e w1 ⟨rfl, b1⟩)
    go_ret
    exact ⟨rfl, ((Below.refl _ _).alloc (Nat.le_refl _) _).trans (b1.mono (by simp))⟩
  · have hn : es.length ≤ 4194304 := by omega
    obtain ⟨q0, hq0⟩ : ∃ q0 : Int, q0 = 1048576 - es.length := ⟨_, rfl⟩
    have hq1 : 0 ≤ q0 := by omega
    have HS : Hid (∀ w, ArgTab w (.slice ad es.length cap) es → Calls Tryz.prog 5 #[.agg #[.slice ad es.length cap], .int .i64 1048576] w fun e w' => e = .returned (.int .i64 q0) ∧ Below w.heap.size w w') := fun w ht => by
      have := lawSzArg _ es 1048576 w hL (by decide) (by decide) ht
      rw [if_neg (by omega)] at this
      rwa [hq0]
    have HTo : Hid (∀ w, ArgTab w (.slice ad es.length cap) es → Calls Tryz.prog 7 #[.agg #[.slice ad es.length cap]] w fun e w' => ∃ g c, e = .returned (.agg #[.slice (some ⟨g, 0, none⟩) es.length c]) ∧ TabRoom w' w.heap.size (.slice (some ⟨g, 0, none⟩) es.length c) es ∧ Below w.heap.size w w') := fun w ht => by
      refine (toTabArg _ es w hn ht).mono ?_
      rintro e w' ⟨u, rfl, hu, hb⟩
      obtain ⟨g, c, rfl, _⟩ := id hu
      exact ⟨g, c, rfl, hu, hb⟩
    have hul := rwrA_le es s.data.toList
    obtain ⟨us, hus⟩ : ∃ us, us = (rwrA es s.data.toList).1 := ⟨_, rfl⟩
    obtain ⟨q, hq⟩ : ∃ q, q = (rwrA es s.data.toList).2.toArray := ⟨_, rfl⟩
    have HM : Hid (∀ v w, TabAt w v es → Calls Tryz.prog 6 #[.agg #[v], .string s] w fun e w' => ∃ g c, e = .returned (.tuple #[.agg #[.slice g us.length c], .string ⟨q⟩]) ∧ FreshTab w' w.heap.size (.slice g us.length c) us ∧ Below w.heap.size w w') := fun v w ht => by rw [hus, hq]; exact specRwrA v es s w hn (by omega) ht
    have HI : Hid (∀ v w, TabAt w v es → VarsOk w → Calls Tryz.prog 8 #[.agg #[v], .string s] w fun e w' => ∃ g c, e = .returned (.tuple #[.agg #[.slice g us.length c], .string ⟨q⟩]) ∧ FreshTab w' w.heap.size (.slice g us.length c) us ∧ Below w.heap.size w w') := fun v w ht hv => by rw [hus, hq]; exact implRwrA v es s w hn (by omega) hwf ht hv
    rw [← hus] at hul
    have HE : Hid (∀ u v w, TabAt w u es → TabAt w v es → Calls Tryz.prog 9 #[.agg #[u], .agg #[v]] w fun e w' => e = .returned (.bool true) ∧ Below w.heap.size w w') := fun u v w h1 h2 => eqTab_same u v es w hn h1 h2
    have HU : Hid (∀ u v w, TabAt w u us → TabAt w v us → Calls Tryz.prog 9 #[.agg #[u], .agg #[v]] w fun e w' => e = .returned (.bool true) ∧ Below w.heap.size w w') := fun u v w h1 h2 => eqTab_same u v us w (by omega) h1 h2
    have HV : Hid (∀ w', Below w.heap.size w w' → VarsOk w') := fun w' h => hv.below h
    obtain ⟨mX, hmX⟩ : ∃ mX : Int, mX = ((1 + 2 * es.length : Nat) : Int) := ⟨_, rfl⟩
    have hmX0 : 0 ≤ mX := by omega
    have HKX : Hid (∀ B v w, FreshTab w B v es → Calls Tryz.prog 10 #[.agg #[v], .int .i64 1] w fun e w' => e = .returned (.int .i64 mX) ∧ FreshTab w' B v (marksE 1 es.length) ∧ w.heap.size ≤ w'.heap.size ∧ ∃ row, w.grownBy w' row ∧ ∀ j, row = some j → v.ownBlock = some j ∧ B ≤ j ∧ j < w.heap.size ∧ es ≠ [] ∧ ∃ x, w.cell? ⟨j, 0, none⟩ = some (.int .i64 x)) := fun B v w h => mark1 mX B v es w hmX hn h
    obtain ⟨mG, hmG⟩ : ∃ mG : Int, mG = ((1 + 2 * us.length : Nat) : Int) := ⟨_, rfl⟩
    have hmG0 : 0 ≤ mG := by omega
    have HKG : Hid (∀ B v w, FreshTab w B v us → Calls Tryz.prog 10 #[.agg #[v], .int .i64 1] w fun e w' => e = .returned (.int .i64 mG) ∧ FreshTab w' B v (marksE 1 us.length) ∧ w.heap.size ≤ w'.heap.size ∧ ∃ row, w.grownBy w' row ∧ ∀ j, row = some j → v.ownBlock = some j ∧ B ≤ j ∧ j < w.heap.size ∧ us ≠ [] ∧ ∃ x, w.cell? ⟨j, 0, none⟩ = some (.int .i64 x)) := fun B v w h => mark1 mG B v us w hmG (by omega) h
    have HHG : Hid (∀ B v w, FreshTab w B v (marksE 1 us.length) → Calls Tryz.prog 11 #[.agg #[v], .int .i64 1] w fun e w' => e = .returned (.int .i64 mG) ∧ Below w.heap.size w w') := fun B v w h => held1 mG B v us.length w hmG (by omega) h
    clear hus hq hq0 hL hwf hv hmX hmG
    go_enter Tryz.func3, Tryz.ntmps3
    go_wp2_with fail
    (go_at_call 5; refine (HS.out _ (HT.out.below ((Below.refl _ _).alloc (Nat.le_refl _) _))).mono ?_; rintro e w1 ⟨rfl, b1⟩; have t1 : w1.cell? ⟨w.heap.size, 0, none⟩ = some (.slice ad es.length cap) := (by rw [b1.cell (by simp)]; simp); have B1 : Hid (Below w.heap.size w w1) := (((Below.refl _ _).alloc (Nat.le_refl _) _).trans (b1.mono (by simp))); have z1 : w.heap.size < w1.heap.size := (by have := b1.size; simp at this; omega); clear b1)
    go_wp2_with fail
    (go_at_call 7; refine (HTo.out _ (HT.out.below B1.out)).mono ?_; rintro e w2 ⟨ga, ca, rfl, ra, b2⟩; have RA := Lib.hid ra.tab; clear ra)
    go_wp2_with fail
    (go_at_call 6; refine (HM.out _ _ RA.out).mono ?_; rintro e w3 ⟨gW, cW, rfl, fw, b3⟩; have FW := Lib.hid fw.tab; clear fw)
    obtain ⟨w5, hw5⟩ : ∃ w5, w5 = w3.alloc (.cells #[.slice gW us.length cW] 28) := ⟨_, rfl⟩
    obtain ⟨bW, hbW⟩ : ∃ bW, bW = w3.heap.size := ⟨_, rfl⟩
    have c3 : Below w1.heap.size w1 w3 := b2.trans (b3.mono b2.size)
    have kW : w5.cell? ⟨bW, 0, none⟩ = some (.slice gW us.length cW) := by rw [hw5, hbW]; exact (cell_new w3 _ _ 0).1
    have c5 : Below w1.heap.size w1 w5 := by rw [hw5]; exact c3.alloc c3.size _
    have tW : TabAt w5 (.slice gW us.length cW) us := by rw [hw5]; exact FW.out.below ((Below.refl _ _).alloc (Nat.le_refl _) _)
    have z5 : w1.heap.size ≤ w5.heap.size := c5.size
    have kWl : bW < w5.heap.size := by rw [hw5, hbW]; simp
    have tT : w5.cell? ⟨w.heap.size, 0, none⟩ = some (.slice ad es.length cap) := box_below t1 c5
    have mk5 : Hid (∀ w', Below w5.heap.size w5 w' → w'.cell? ⟨w.heap.size, 0, none⟩ = some (.slice ad es.length cap) ∧ w'.cell? ⟨bW, 0, none⟩ = some (.slice gW us.length cW) ∧ TabAt w' (.slice gW us.length cW) us ∧ ArgTab w' (.slice ad es.length cap) es ∧ Below w.heap.size w w' ∧ VarsOk w') := fun w' hb => by
      have h1 : Below w.heap.size w w' := B1.out.trans ((c5.trans (hb.mono z5)).mono (by omega))
      exact ⟨box_below tT hb, box_below kW hb, tW.below hb, HT.out.below h1, h1, HV.out _ h1⟩
    have C5 : Below w5.heap.size w5 w5 := Below.refl _ _
    have tTo : ∀ o, (w3.alloc o).cell? ⟨w.heap.size, 0, none⟩ = some (.slice ad es.length cap) := fun o => by rw [cell_alloc_lt (by have := c3.size; omega), c3.cell (by simp; omega)]; exact t1
    have HTo5 : Hid (ArgTab (w3.alloc (.cells #[.slice gW us.length cW] 28)) (.slice ad es.length cap) es) := by rw [← hw5]; exact (mk5.out _ C5).2.2.2.1
    clear kW tW c5 tT c3 b2 b3
    go_wp2_with fail
    rw [← hbW]
    (go_at_call 7; refine (HTo.out _ HTo5.out).mono ?_; rintro e w6 ⟨gx, cx, rfl, rx, b6⟩; rw [← hw5] at rx b6; have C6 := C5.trans (b6.mono C5.size); have RX6 := Lib.hid rx; clear rx)
    obtain ⟨W7, hW7⟩ : ∃ W7, W7 = w6.alloc (.cells #[.slice (some ⟨gx, 0, none⟩) es.length cx] 28) := ⟨_, rfl⟩
    obtain ⟨bX, hbX⟩ : ∃ bX, bX = w6.heap.size := ⟨_, rfl⟩
    have x7 : W7.cell? ⟨bX, 0, none⟩ = some (.slice (some ⟨gx, 0, none⟩) es.length cx) := by rw [hW7, hbX]; exact (cell_new w6 _ _ 0).1
    have z7 : bX < W7.heap.size := by rw [hW7, hbX]; simp
    have C7 : Hid (Below w5.heap.size w5 W7) := by rw [hW7]; exact C6.alloc C6.size _
    have RX7 : Hid (TabRoom W7 w5.heap.size (.slice (some ⟨gx, 0, none⟩) es.length cx) es) := by rw [hW7]; exact RX6.out.below ((Below.refl _ _).alloc (Nat.le_refl _) _)
    have gxl : w5.heap.size ≤ gx ∧ gx < bX := by
      obtain ⟨g, c, e1, _, h1, h2, _⟩ := RX6.out
      simp at e1
      obtain ⟨rfl, rfl⟩ := e1
      rw [hbX]
      exact ⟨h1, h2⟩
    have z57 : w5.heap.size ≤ W7.heap.size := C7.out.size
    have HI7 : Hid (Calls Tryz.prog 8 #[.agg #[.slice (some ⟨gx, 0, none⟩) es.length cx], .string s] (w6.alloc (.cells #[.slice (some ⟨gx, 0, none⟩) es.length cx] 28)) fun e w' => ∃ g c, e = .returned (.tuple #[.agg #[.slice g us.length c], .string ⟨q⟩]) ∧ FreshTab w' W7.heap.size (.slice g us.length c) us ∧ Below W7.heap.size W7 w') := by
      rw [← hW7]; exact HI.out _ _ RX7.out.tab (mk5.out _ C7.out).2.2.2.2.2
    clear RX6 C6 C5 b6 tTo HTo5 hbW hw5 t1
    go_wp2_with fail
    rw [← hbX]
    clear hbX
    (go_at_call 8; refine HI7.out.mono ?_; rintro e w7 ⟨gG, cG, rfl, fg, b7⟩; have FG7 := Lib.hid fg; clear fg)
    obtain ⟨w8, hw8⟩ : ∃ w8, w8 = w7.alloc (.cells #[.slice gG us.length cG] 28) := ⟨_, rfl⟩
    obtain ⟨bG, hbG⟩ : ∃ bG, bG = w7.heap.size := ⟨_, rfl⟩
    have lG : W7.heap.size ≤ bG := by rw [hbG]; exact b7.size
    have kG : w8.cell? ⟨bG, 0, none⟩ = some (.slice gG us.length cG) := by rw [hw8, hbG]; exact (cell_new w7 _ _ 0).1
    have FG : Hid (FreshTab w8 W7.heap.size (.slice gG us.length cG) us) := by rw [hw8]; exact FG7.out.later ((Below.refl _ _).alloc (Nat.le_refl _) _)
    have c8 : Below W7.heap.size W7 w8 := by rw [hw8]; exact b7.alloc b7.size _
    have C5 : Below w5.heap.size w5 w8 := C7.out.trans (c8.mono z57)
    have xX := box_below x7 c8
    have RX := Lib.hid (RX7.out.below c8)
    have kWo : ∀ o, (w7.alloc o).cell? ⟨bW, 0, none⟩ = some (.slice gW us.length cW) := fun o => by
      have h1 : Below w5.heap.size w5 (w7.alloc o) := C7.out.trans ((b7.alloc b7.size o).mono z57)
      exact (mk5.out _ h1).2.1
    have HU8 : Hid (Calls Tryz.prog 9 #[.agg #[.slice gG us.length cG], .agg #[.slice gW us.length cW]] (w7.alloc (.cells #[.slice gG us.length cG] 28)) fun e w' => e = .returned (.bool true) ∧ Below w8.heap.size w8 w') := by
      rw [← hw8]; exact HU.out _ _ _ FG.out.tab (mk5.out _ C5).2.2.1
    clear FG7 RX7 c8 C7 HI7 x7 b7 hW7
    go_wp2_with fail
    (go_at_call 9; refine HU8.out.mono ?_; rintro e w9 ⟨rfl, b9⟩; replace C5 := C5.trans ((b9).mono C5.size); replace kG := box_below kG b9; replace FG := Lib.hid (FG.out.later b9); replace xX := box_below xX b9; replace RX := Lib.hid (RX.out.below b9); obtain ⟨tT, kW, _⟩ := mk5.out _ C5; clear kWo hw8 HU8)
    rw [← hbG]
    clear hbG
    go_upto_region 12 with fail
    go_cut [52] (fun s wx => s = .bool false ∧ Below w9.heap.size w9 wx)
    case first =>
      have mk9 : Hid (∀ w', Below w9.heap.size w9 w' → w'.cell? ⟨bX, 0, none⟩ = some (.slice (some ⟨gx, 0, none⟩) es.length cx) ∧ w'.cell? ⟨w.heap.size, 0, none⟩ = some (.slice ad es.length cap) ∧ Below w9.heap.size w9 w') := fun w' hb => ⟨box_below xX hb, box_below tT hb, hb⟩
      go_region_held3 (fun w' => w'.cell? ⟨bX, 0, none⟩ = some (.slice (some ⟨gx, 0, none⟩) es.length cx) ∧ w'.cell? ⟨w.heap.size, 0, none⟩ = some (.slice ad es.length cap) ∧ Below w9.heap.size w9 w')
        (first | exact mk9.out _ (Below.refl _ _).drew | exact mk9.out _ cc | (trace_state; fail))
        (first
          | (go_at_call 7; have hS := (by assumption : _ ∧ _ ∧ Below w9.heap.size w9 _); refine (HTo.out _ (mk5.out _ (C5.trans (hS.2.2.mono C5.size))).2.2.2.1).mono ?_; rintro e wN ⟨gy, cy, rfl, ry, bN⟩; have RY := Lib.hid ry.tab; have cc : Below w9.heap.size w9 wN := hS.2.2.trans (bN.mono hS.2.2.size))
          | (go_at_call 9; have hS := (by assumption : _ ∧ _ ∧ Below w9.heap.size w9 _); refine (HE.out _ _ _ (RX.out.tab.below hS.2.2) RY.out).mono ?_; rintro e wN ⟨rfl, bN⟩; have cc : Below w9.heap.size w9 wN := hS.2.2.trans (bN.mono hS.2.2.size)))
      all_goals (go_wp2_with fail; go_meet; exact ⟨rfl, cc⟩)
    case rest =>
      obtain ⟨rfl, c10⟩ := hcut
      obtain ⟨w10, hw10⟩ : ∃ w10, w10 = wc := ⟨_, rfl⟩
      rw [← hw10] at c10 ⊢
      clear hw10
      replace C5 := C5.trans ((c10).mono C5.size); replace kG := box_below kG c10; replace FG := Lib.hid (FG.out.later c10); replace xX := box_below xX c10; replace RX := Lib.hid (RX.out.below c10); obtain ⟨tT, kW, _⟩ := mk5.out _ C5
      go_wp2_with fail
      (go_at_call 10; refine (HKX.out _ _ _ RX.out.fresh).mono ?_; rintro e w11 ⟨rfl, _, z11, row, hg, hrow⟩; replace hrow : ∀ j, row = some j → j = gx := (fun j hj => by have := (hrow j hj).1; simp [Value.ownBlock] at this; omega); replace C5 := C5.trans (below_grown hg (fun j hj => by have := hrow j hj; omega) C5.size); replace kG := cell_grown kG hg (fun e => by have := hrow _ e.symm; omega); replace FG := Lib.hid (FG.out.grown hg (fun j hj => by have := hrow j hj; omega)); obtain ⟨tT, kW, _⟩ := mk5.out _ C5; clear hg hrow xX RX)
      go_wp2_with fail
      (go_at_call 9; refine (HU.out _ _ _ FG.out.tab (mk5.out _ C5).2.2.1).mono ?_; rintro e w12 ⟨rfl, b12⟩; replace C5 := C5.trans ((b12).mono C5.size); replace kG := box_below kG b12; replace FG := Lib.hid (FG.out.later b12); obtain ⟨tT, kW, _⟩ := mk5.out _ C5)
      go_wp2_with fail
      (go_at_call 10; refine (HKG.out _ _ _ FG.out).mono ?_; rintro e w13 ⟨rfl, fg, z13, row, hg, hrow⟩; replace C5 := C5.trans (below_grown hg (fun j hj => by have := (hrow j hj).2.1; omega) C5.size); replace kG := cell_grown kG hg (fun e => by obtain ⟨_, _, _, _, x, hx⟩ := hrow _ e.symm; rw [kG] at hx; cases hx); replace FG := Lib.hid fg; obtain ⟨tT, kW, _⟩ := mk5.out _ C5; clear hg hrow fg)
      go_wp2_with fail
      (go_at_call 11; refine (HHG.out _ _ _ FG.out).mono ?_; rintro e w14 ⟨rfl, b14⟩; replace C5 := C5.trans ((b14).mono C5.size); replace kG := box_below kG b14; replace FG := Lib.hid (FG.out.later b14); obtain ⟨tT, kW, _⟩ := mk5.out _ C5)
      go_wp2_with fail
      (go_at_call 7; refine (HTo.out _ (mk5.out _ C5).2.2.2.1).mono ?_; rintro e w15 ⟨gy, cy, rfl, ry, b15⟩; replace C5 := C5.trans ((b15).mono C5.size); replace kG := box_below kG b15; replace FG := Lib.hid (FG.out.later b15); obtain ⟨tT, kW, _⟩ := mk5.out _ C5; have RY := Lib.hid ry.tab; clear ry)
      go_wp2_with fail
      (go_at_call 8; refine (HI.out _ _ RY.out (mk5.out _ C5).2.2.2.2.2).mono ?_; rintro e w16 ⟨gH, cH, rfl, fh, b16⟩; replace C5 := C5.trans ((b16).mono C5.size); replace kG := box_below kG b16; replace FG := Lib.hid (FG.out.later b16); obtain ⟨tT, kW, _⟩ := mk5.out _ C5; have FH := Lib.hid fh.tab; clear fh)
      have kWo : ∀ o, (w16.alloc o).cell? ⟨bW, 0, none⟩ = some (.slice gW us.length cW) := fun o => by rw [cell_alloc_lt (World.block_lt_of_cell? _ _ kW)]; exact kW
      have kGo : ∀ o, (w16.alloc o).cell? ⟨bG, 0, none⟩ = some (.slice gG us.length cG) := fun o => by rw [cell_alloc_lt (World.block_lt_of_cell? _ _ kG)]; exact kG
      have b17 : ∀ o, Below w16.heap.size w16 (w16.alloc o) := fun o => (Below.refl _ _).alloc (Nat.le_refl _) o
      have H17 : Hid (∀ o, TabAt (w16.alloc o) (.slice gH us.length cH) us ∧ TabAt (w16.alloc o) (.slice gW us.length cW) us) := fun o => ⟨FH.out.below (b17 o), (mk5.out _ (C5.trans ((b17 o).mono C5.size))).2.2.1⟩
      have B17 := Lib.hid b17
      clear b17
      go_wp2_with fail
      (go_at_call 9; refine (HU.out _ _ _ (H17.out _).1 (H17.out _).2).mono ?_; rintro e w18 ⟨rfl, b18⟩; have b18' : Below w16.heap.size w16 w18 := (B17.out _).trans (b18.mono (by simp)); replace C5 := C5.trans ((b18').mono C5.size); replace kG := box_below kG b18'; replace FG := Lib.hid (FG.out.later b18'); obtain ⟨tT, kW, _⟩ := mk5.out _ C5; clear kWo kGo)
      go_wp2_with fail
      (go_at_call 11; refine (HHG.out _ _ _ FG.out).mono ?_; rintro e w19 ⟨rfl, b19⟩; replace C5 := C5.trans ((b19).mono C5.size); replace kG := box_below kG b19; replace FG := Lib.hid (FG.out.later b19); obtain ⟨tT, kW, _⟩ := mk5.out _ C5)
      go_wp2_with fail
      go_ret
      exact ⟨rfl, (mk5.out _ C5).2.2.2.2.1⟩

end Go.Proofs.YtpilmldcmpbabaaGreatDoor

/- An argument that is a table of ends, as the frame of a law hands it in: its ends lie in the machine's memory, at any address. No condition. -/
namespace Go.Proofs.YtpilmldcmpbabaaGreatDoor
open Go.ChangeShapes Go.WideShapes Go.ChangeAt Go.RowKit Go.Deep

theorem array1 {α : Type} {cs : Array α} (h : cs.size = 1) : ∃ c0, cs = #[c0] := by
  obtain ⟨l⟩ := cs
  match l, h with
  | [c0], _ => exact ⟨c0, rfl⟩

theorem cellsTabL : Tryz.prog.cellsOf 24 = 1 := by kernel_rfl
theorem cellsRowL : Tryz.prog.cellsOf 22 = 1 := by kernel_rfl
theorem cellsEndL : Tryz.prog.cellsOf 72 = 2 := by kernel_rfl
theorem cellsIntL : Tryz.prog.cellsOf 3 = 1 := by kernel_rfl
set_option maxRecDepth 100000 in
theorem tab_in {H : Type} {enc : TypeId × Value → H} {W : World} {base : Nat} {v : Value} {d : DataW H} {p : List MemPlace} (hv : Value.okWide Tryz.prog W .any base 24 v)
    (h : DataW.Trod enc Tryz.prog W 0 (fun _ => true) true 24 v d p) : ∃ (u : Value) (es : List (Int × Int)), v = .agg #[u] ∧ ArgTab W u es ∧ es.length ≤ 9223372036854775807 ∧ wfE es := by
  obtain ⟨cs, rfl, hsz⟩ := okWide_struct Tryz.underlying24 hv
  obtain ⟨c0, rfl⟩ := array1 (hsz.trans cellsTabL)
  obtain ⟨fuel, hf⟩ := h
  obtain ⟨y0, n, _, _, h0⟩ := trod_struct1 Tryz.underlying24 hf
  have h1 : DataW.trod enc Tryz.prog W 0 (fun _ => true) true n 22 [c0] = some y0 := by
    simpa [Value.cells, cellsRowL] using h0
  rcases open_slice_pairs Tryz.underlying22 Tryz.underlying72 cellsEndL rfl rfl cellsIntL cellsIntL h1 with ⟨hcs, _⟩ | ⟨a, len, cap, m, n', V0, V1, D0, D1, P0, P1, hcs, _, hl, hm, hmm, _, hcell⟩
  · simp at hcs
    subst hcs
    exact ⟨_, [], rfl, ⟨none, 0, rfl, ⟨by simp, fun _ => rfl⟩, fun h => by simp at h⟩, by simp, fun e he => by cases he⟩
  · simp at hcs
    subst hcs
    have hm2 : m = cap := by simpa using hmm
    refine ⟨_, (List.range len).map fun i => (intOf (V0 i), intOf (V1 i)), rfl, ⟨some a, cap, by simp, ⟨by simpa using hl, by simp⟩, fun hpos => ?_⟩, by have hm' : cap ≤ 9223372036854775807 := hm; simpa using Nat.le_trans hl hm', fun e he => ?_⟩
    rotate_left
    · obtain ⟨i, hi, rfl⟩ := List.mem_map.1 he
      have hi' : i < len := List.mem_range.1 hi
      obtain ⟨k0, k1, t0, t1⟩ := hcell i (by omega)
      obtain ⟨z0, e0, _, w0⟩ := DataW.trod_int Tryz.underlying3 t0
      obtain ⟨z1, e1, _, w1⟩ := DataW.trod_int Tryz.underlying3 t1
      simp at e0 e1
      rw [e0, e1]
      exact ⟨w0, w1⟩
    have each : ∀ i, i < len → W.cell? (a.add (i * 2)) = some (.int .i64 (intOf (V0 i))) ∧ W.cell? (a.add (i * 2 + 1)) = some (.int .i64 (intOf (V1 i))) := by
      intro i hi
      obtain ⟨k0, k1, t0, t1⟩ := hcell i (by omega)
      obtain ⟨z0, e0, _, _⟩ := DataW.trod_int Tryz.underlying3 t0
      obtain ⟨z1, e1, _, _⟩ := DataW.trod_int Tryz.underlying3 t1
      simp at e0 e1
      rw [e0] at k0 ⊢
      rw [e1] at k1 ⊢
      exact ⟨k0, k1⟩
    refine ⟨a, rfl, ?_, fun i hi => ?_⟩
    · have := World.block_lt_of_cell? W _ (each 0 (by simpa using hpos)).1
      rwa [Addr.add_block'] at this
    · have := each i (by simpa using hi)
      simpa using this

end Go.Proofs.YtpilmldcmpbabaaGreatDoor

/- RwrLine of the program answers as RwrLine of the specification, at every argument; the arguments stay as they were. The card: the variables that are read are tied to the program's text. No condition beside what the law sets aside and the card says. -/
namespace Go.Proofs.YtpilmldcmpbabaaGreatDoor
open Go.ChangeShapes Go.WideShapes Go.ChangeAt Go.RowKit Go.Joins Go.WideMaps Go.WideElems
open Go.ChangeMaps (open_string shut_string)

theorem laidOutRwrLine : laidOutB Tryz.prog = true := by kernel_rfl

theorem ownRwrLine : ownKnob Tryz.prog.godebug = none := by kernel_rfl
theorem starErr : "*errors.errorString" = "*" ++ "errors.errorString" := by decide
theorem rowErr (u : TypeId) (h : Tryz.prog.typeName? 3 u = some "*errors.errorString") : u = 135 :=
  typeName_ptr_named (nm := "errors.errorString") (by rw [← starErr]; kernel_rfl) (by kernel_rfl) (by decide) u (by rw [← starErr]; exact h)

/-- What the row's list gives a walk. -/
theorem vars_of_laid {W : World} (h : laidMetH Tryz.prog Rows.fnExactRwrLineRow.laid W) :
    VarsOk W ∧ (∃ t a, W.var? Tryz.prog "loop.example/hatchway/impl.errNoEnd" = some #[.iface t (.pointer (some a))]) ∧ (∃ t a, W.var? Tryz.prog "loop.example/hatchway/impl.errNoNumber" = some #[.iface t (.pointer (some a))]) := by
  rw [MakeChecks.laidMetH_plain _ _ _ (by kernel_rfl)] at h
  have h3 := laidMet.tail (laidMet.tail h)
  have ht : laidMet Tryz.prog (("internal/strconv.uint64pow10", Lib.tabData .u64 Lib.pow10Tab) :: _) W := h3
  have tab : TabOk W := Lib.tabIs_of_head (g := 3) (t := 117) (e := 110) (n := 20) (by kernel_rfl) (by kernel_rfl) Tryz.underlying117 Tryz.underlying110 (by kernel_rfl) (by kernel_rfl) ht
  have h4 := laidMet.tail h3
  obtain ⟨a1, _, v1, _⟩ := laid_sentinel (g := 5) (tp := 135) (te := 137) (ts := 9) h4 (by kernel_rfl) (by kernel_rfl) Tryz.underlying57 rowErr Tryz.underlying135 Tryz.underlying137 rfl rfl Tryz.underlying9 (by kernel_rfl) (by kernel_rfl)
  have h5 := laidMet.tail h4
  obtain ⟨a2, _, v2, _⟩ := laid_sentinel (g := 4) (tp := 135) (te := 137) (ts := 9) h5 (by kernel_rfl) (by kernel_rfl) Tryz.underlying57 rowErr Tryz.underlying135 Tryz.underlying137 rfl rfl Tryz.underlying9 (by kernel_rfl) (by kernel_rfl)
  have h6 := laidMet.tail h5
  obtain ⟨a3, _, v3, _⟩ := laid_sentinel (g := 2) (tp := 135) (te := 137) (ts := 9) h6 (by kernel_rfl) (by kernel_rfl) Tryz.underlying57 rowErr Tryz.underlying135 Tryz.underlying137 rfl rfl Tryz.underlying9 (by kernel_rfl) (by kernel_rfl)
  have h7 := laidMet.tail h6
  obtain ⟨a4, _, v4, _⟩ := laid_sentinel (g := 1) (tp := 135) (te := 137) (ts := 9) h7 (by kernel_rfl) (by kernel_rfl) Tryz.underlying57 rowErr Tryz.underlying135 Tryz.underlying137 rfl rfl Tryz.underlying9 (by kernel_rfl) (by kernel_rfl)
  have c3 := World.var?_cell (g := 2) (by kernel_rfl) v3 0
  have c4 := World.var?_cell (g := 1) (by kernel_rfl) v4 0
  exact ⟨⟨tab, ⟨_, _, v2⟩, ⟨_, _, v1⟩, ⟨_, _, by simpa using c3⟩, ⟨_, _, by simpa using c4⟩⟩, ⟨_, _, v4⟩, ⟨_, _, v3⟩⟩

/-- The two variables of the program's, read as tokens. -/
theorem vars_read {H : Type} (enc : TypeId × Value → H) {W : World} {x0 x1 : Value} (h0 : W.var? Tryz.prog "loop.example/hatchway/impl.errNoEnd" = some #[x0]) (h1 : W.var? Tryz.prog "loop.example/hatchway/impl.errNoNumber" = some #[x1]) (i0 : IsIface x0) (i1 : IsIface x1) (sp : Nat → Bool) :
    DataW.TrodVars enc Tryz.prog W sp ["loop.example/hatchway/impl.errNoEnd", "loop.example/hatchway/impl.errNoNumber"] [tok enc x0, tok enc x1] [.cell 1 0, .cell 2 0] :=
  vars_read2 enc (g0 := 1) (g1 := 2) (by kernel_rfl) (by kernel_rfl) Tryz.underlying57 h0 i0 (by kernel_rfl) (by kernel_rfl) Tryz.underlying57 h1 i1 sp

/-- The heap that the variables' own initialisers leave meets the condition. -/
theorem doorRwrLine (os : Os) (args : Array Value) : laidMetH Tryz.prog Rows.fnExactRwrLineRow.laid ((World.doorLaid Tryz.prog 400 os).forCall (fun _ _ => 0) ⟨#[], args, []⟩).memory :=
  laidMetH_of_parts3 (fuel := 8) (laidMet_of_run' 8 (by kernel_rfl) (by kernel_rfl)) (by kernel_rfl) (by kernel_rfl)

set_option maxRecDepth 100000 in
theorem liftedRwrLine (os : Os) (started : os.Started) (H : Type) (enc : TypeId × Value → H) :
    ReturnsInHanded {} Tryz.checked os 3 .any (fun w args => (Rows.fnExactRwrLineSpec.pre enc Tryz.prog Tryz.f3 [] false w args ∧ laidMetH Tryz.prog Rows.fnExactRwrLineRow.laid w) ∧ sizedMet enc Tryz.prog Tryz.f3 (OpenSpec.ofChange Rows.fnExactRwrLineSpec) false w args)
      (Rows.fnExactRwrLineSpec.post enc Tryz.prog Tryz.f3 false true false false) := by
  refine returnsInHanded_of_change_and (C := Tryz.checked) (X := fun w _ => laidMetH Tryz.prog Rows.fnExactRwrLineRow.laid w) (fun _ _ _ hh h => h.of_heap hh) ownRwrLine started (by kernel_rfl) Tryz.func3
    (ChangeSpec.witness_shaped (enc := enc) (C := Tryz.checked) (os := os) (X := fun w _ => laidMetH Tryz.prog Rows.fnExactRwrLineRow.laid w) false (World.doorLaid Tryz.prog 400 os) #[.agg #[.slice none 0 0], .string ⟨#[]⟩] 8 rfl (World.shaped_of_RefB (by kernel_rfl) (by kernel_rfl)) (by kernel_rfl) (by kernel_rfl) (by kernel_rfl) (doorRwrLine os _)) ?_
  intro W base args ds gs before hval0 hW _ _ hL _
  have hval : ∀ (j : Nat) t v, Tryz.f3.params[j]? = some t → args[j]? = some v → Value.okWide Tryz.prog W .any base t v := hval0
  have hW' := hW
  obtain ⟨p, q, hA0, hV0, rfl, _, _⟩ := hW
  have hA : DataW.TrodAll enc Tryz.prog W 0 (fun _ => true) true Tryz.f3.params.toList args.toList ds p := hA0
  have hV : DataW.TrodVars enc Tryz.prog W (fun _ => true) ["loop.example/hatchway/impl.errNoEnd", "loop.example/hatchway/impl.errNoNumber"] gs q := hV0
  rw [Tryz.params3] at hA hval
  obtain ⟨v0, vs0, d0, ds0, p0, q0, hargs, rfl, rfl, h0, r0⟩ := trodAll_cons hA
  obtain ⟨v1, vs1, d1, ds1, p1, q1, rfl, rfl, rfl, h1, r1⟩ := trodAll_cons r0
  obtain ⟨rfl, rfl, rfl⟩ := trodAll_nil r1
  obtain rfl : args = #[v0, v1] := by cases args; simp_all
  have k0 := h0
  have lt0 : ∀ x ∈ p0, x.block < W.heap.size := by obtain ⟨m, hm⟩ := k0; exact DataW.trod_lt m _ _ _ hm
  obtain ⟨u0, es0, rfl, ht0, hl0, hw0⟩ := tab_in (hval 0 24 v0 rfl rfl) h0
  have k1 := h1
  have lt1 : ∀ x ∈ p1, x.block < W.heap.size := by obtain ⟨m, hm⟩ := k1; exact DataW.trod_lt m _ _ _ hm
  obtain ⟨s1, rfl, _, _, ws1⟩ := open_string Tryz.underlying9 (hval 1 9 v1 rfl rfl) h1
  obtain ⟨hok, ⟨t4, a4, hv4⟩, ⟨t3, a3, hv3⟩⟩ := vars_of_laid hL
  obtain ⟨rfl, rfl⟩ := hV.unique (vars_read enc hv4 hv3 trivial trivial _)
  clear hA0 hV0 hval0
  have key := lawRwrLine_any u0 es0 s1 W hl0 ht0 hw0 ws1 hok
  refine key.mono fun e W' ⟨he, bel⟩ => ?_
  subst he
  exact ⟨_, rfl, _, _, _, [], _, [.cell 1 0, .cell 2 0], hW', trodAll_mk1 (shut_bool Tryz.underlying4 true), (trodAll_cons_mk (Below.trod laidOutRwrLine (by kernel_rfl) (of_decide_eq_true (by kernel_rfl)) k0 bel lt0) (trodAll_cons_mk (Below.trod laidOutRwrLine (by kernel_rfl) (of_decide_eq_true (by kernel_rfl)) k1 bel lt1) trodAll_mk0)),
    vars_read enc (var_stays (g := 1) (by kernel_rfl) hv4 bel (Nat.le_refl _)) (var_stays (g := 2) (by kernel_rfl) hv3 bel (Nat.le_refl _)) trivial trivial _, bel.frame _, fun h => by cases h⟩

theorem fnExactRwrLine_row : Rows.FnExactRwrLineSaid :=
  OpenClaim.holds_of_wide 3 Tryz.f3 rfl rfl rfl rfl rfl rfl rfl ⟨rfl, rfl, rfl, rfl, rfl⟩ rfl rfl rfl rfl rfl (by kernel_rfl) Tryz.func3 (by kernel_rfl)
    (of_decide_eq_true (by kernel_rfl)) (by unfold Func.isWrapper; rw [if_neg (of_decide_eq_false (by kernel_rfl))]; exact ⟨rfl, rfl⟩)
    (fun os started H enc _ => liftedRwrLine os started H enc)

theorem fnExactRwrLine_holds : Rows.FnExactRwrLineCardSaid :=
  Claim7.holds_tied_plain_at .later [] Rows.fnExactRwrLineCard.laidKinds true Rows.fnExactRwrLineCard.stood.harness true
    fnExactRwrLine_row (fun _ h => by cases h) (by kernel_rfl) (fun _ h => by cases h) fnExactRwrLine_row_tie rfl ⟨rfl, rfl⟩ (by kernel_rfl) rfl
    (fun f fn hf hfn => by
      obtain rfl : f = 3 := Option.some.inj ((show Tryz.prog.funcNamed "loop.example/hatchway/laws.FnExactRwrLine" = some 3 by kernel_rfl).symm.trans hf) |>.symm
      obtain rfl : fn = Tryz.f3 := (Option.some.inj (Tryz.func3.symm.trans hfn)).symm
      exact ⟨by kernel_rfl, fun j t ht => by
        rw [Tryz.params3] at ht
        have hm : t ∈ [24, 9] := by
          have := Array.mem_of_getElem? ht
          simpa using this
        have hall : ([24, 9].all fun u => !Tryz.prog.wantsStandIn u) = true := by kernel_rfl
        exact (show Tryz.prog.wantsStandIn t = false by simpa using List.all_eq_true.1 hall t hm)⟩)
    (by kernel_rfl)

end Go.Proofs.YtpilmldcmpbabaaGreatDoor
