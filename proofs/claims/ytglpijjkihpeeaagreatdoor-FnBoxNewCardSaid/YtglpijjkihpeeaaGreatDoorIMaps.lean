/- The program's map both ways: made, joined, asked, counted. Conditions: at most 2^22 ends, all of whose numbers are ints; what is joined comes with the next port. -/
import Derived.Test.YtglpijjkihpeeaaGreatDoorMaps
import Derived.Test.YtglpijjkihpeeaaGreatDoorVals
import Derived.DeepKeys4
import Derived.MapViews
import Derived.Lib.SmallJoins
import Derived.ChangeSame
namespace Go.Proofs.YtglpijjkihpeeaaGreatDoor
open Go.RowKit Go.ChangeMaps Go.MapKept Go.WideElems Go.Joins
open Go.Maps (Keyed keyOf_int_mk int_keyed)

set_option maxRecDepth 100000 in
theorem laidOutM : laidOutB Tryz.prog = true := by kernel_rfl
set_option maxRecDepth 100000 in
theorem rowEnd : (53 : TypeId) < Tryz.prog.types.size := of_decide_eq_true (by kernel_rfl)
set_option maxRecDepth 100000 in
theorem deepEnd : Tryz.prog.keyTypeAt (Tryz.prog.types.size + 1) 53 = true := by kernel_rfl
set_option maxRecDepth 100000 in
theorem wideEnd : (match Tryz.prog.underlying 53 with | some (.array _ _) | some (.struct _) => true | _ => false) = true := by kernel_rfl
theorem cellsEndI : Tryz.prog.cellsOf 53 = 2 := by kernel_rfl
set_option maxRecDepth 100000 in
theorem lawEnd : Keyed Tryz.prog 53 := Keyed.of_law (deep_law_laid laidOutM (m := 2) (by omega) rowEnd (by kernel_rfl) wideEnd)
set_option maxRecDepth 100000 in
theorem lawInt : Keyed Tryz.prog 3 := int_keyed Tryz.underlying3
theorem zInt (w : World) : (zeroValue 3).run Tryz.prog w = .ok (.int .i64 0) w := by kernel_rfl
theorem zEnd (w : World) : (zeroValue 53).run Tryz.prog w = .ok (.agg #[.int .i64 0, .int .i64 0]) w := by kernel_rfl
set_option maxRecDepth 100000 in
theorem formedEnd (c0 c1 : Value) : (Value.agg #[c0, c1]).formed Tryz.prog 53 = true := by
  simp [Value.formed, Tryz.underlying53, cellsEndI]
set_option maxRecDepth 100000 in
theorem keyEnd {a p : Int} (wa : (Lit.int .i64 a).wf = true) (wp : (Lit.int .i64 p).wf = true) : ∃ kl, keyOf Tryz.prog 53 (.agg #[.int .i64 a, .int .i64 p]) = some kl := by
  have h : DataW.Trod (H := Unit) (fun _ => ()) Tryz.prog (default : World) 0 (fun _ => true) true 53 (.agg #[.int .i64 a, .int .i64 p]) _ _ :=
    shut_agg2 (y0 := (.lit (.int .i64 a), [])) (y1 := (.lit (.int .i64 p), [])) Tryz.underlying53 (by kernel_rfl) cellsEndI ⟨1, by simp [DataW.trod, Tryz.underlying3, wa]⟩ ⟨1, by simp [DataW.trod, Tryz.underlying3, wp]⟩
  exact ⟨_, (keyOf_asKey deepEnd wideEnd (formedEnd _ _) h).1⟩

/-- Nothing but the maps in these two blocks has turned. -/
structure Two (g1 g2 : Nat) (w w' : World) : Prop where
  os : w'.os = w.os
  tape : w'.tape = w.tape
  output : w'.output = w.output
  size : w.heap.size ≤ w'.heap.size
  block : ∀ k, k < w.heap.size → k ≠ g1 → k ≠ g2 → w'.heap[k]? = w.heap[k]?
theorem Two.refl (g1 g2 : Nat) (w : World) : Two g1 g2 w w := ⟨rfl, rfl, rfl, Nat.le_refl _, fun _ _ _ _ => rfl⟩
theorem Two.trans {g1 g2 : Nat} {a b c : World} (h : Two g1 g2 a b) (k : Two g1 g2 b c) : Two g1 g2 a c :=
  ⟨k.os.trans h.os, k.tape.trans h.tape, k.output.trans h.output, Nat.le_trans h.size k.size, fun i hi h1 h2 => (k.block i (Nat.lt_of_lt_of_le hi h.size) h1 h2).trans (h.block i hi h1 h2)⟩
theorem Two.of_below {g1 g2 : Nat} {w w' : World} (h : Below w.heap.size w w') : Two g1 g2 w w' := ⟨h.os, h.tape, h.output, h.size, fun k hk _ _ => h.block k hk⟩
theorem Two.below {g1 g2 B : Nat} {w w' : World} (h : Two g1 g2 w w') (hB : B ≤ w.heap.size) (h1 : B ≤ g1) (h2 : B ≤ g2) : Below B w w' :=
  ⟨h.os, h.tape, h.output, h.size, fun k hk => h.block k (by omega) (by omega) (by omega)⟩
theorem Two.cell {g1 g2 : Nat} {w w' : World} (h : Two g1 g2 w w') {b i : Nat} (hb : b < w.heap.size) (h1 : b ≠ g1) (h2 : b ≠ g2) : w'.cell? ⟨b, i, none⟩ = w.cell? ⟨b, i, none⟩ := by
  simp only [World.cell?]
  rw [h.block b hb h1 h2]
theorem Two.frozen {g1 g2 : Nat} {w w' : World} (h : Two g1 g2 w w') {b i : Nat} (hb : b < w.heap.size) (h1 : b ≠ g1) (h2 : b ≠ g2) : w'.frozen? ⟨b, i, none⟩ = w.frozen? ⟨b, i, none⟩ :=
  World.frozen?_of_block (h.block b hb h1 h2)
theorem Two.alloc {g1 g2 : Nat} {w w' : World} (h : Two g1 g2 w w') (o : Obj) : Two g1 g2 w (w'.alloc o) := h.trans (Two.of_below ((Below.refl _ _).alloc (Nat.le_refl _) _))
theorem turned_two {g1 g2 : Nat} {w w' : World} {g : Nat} (h : w.mapTurned w' g) (hg : g = g1 ∨ g = g2) : Two g1 g2 w w' := by
  have hr := h.grown
  refine ⟨hr.os, hr.tape, hr.output, hr.size, fun k hk h1 h2 => hr.block k hk fun e => ?_⟩
  injection e with e
  omega

/-- The two maps of these ends: each end's first port, and each port's end. -/
def Both (w : World) (g1 g2 : Nat) (es : List (Int × Int)) : Prop := MapAt Tryz.prog 53 w g1 (valsL es) ∧ MapAt Tryz.prog 3 w g2 (keysL es) ∧ g1 ≠ g2
theorem Both.below {w w' : World} {g1 g2 B : Nat} {es : List (Int × Int)} (h : Both w g1 g2 es) (hb : Below B w w') (h1 : g1 < B) (h2 : g2 < B) : Both w' g1 g2 es :=
  ⟨h.1.below hb h1, h.2.1.below hb h2, h.2.2⟩
theorem Both.lt {w : World} {g1 g2 : Nat} {es : List (Int × Int)} (h : Both w g1 g2 es) : g1 < w.heap.size ∧ g2 < w.heap.size := ⟨h.1.lt, h.2.1.lt⟩
theorem Both.later {w w' : World} {g1 g2 : Nat} {es : List (Int × Int)} (h : Both w g1 g2 es) (hb : Below w.heap.size w w') : Both w' g1 g2 es := h.below hb h.lt.1 h.lt.2

set_option maxRecDepth 100000 in
set_option maxHeartbeats 800000 in
theorem newBoth_any (w : World) :
    Calls Tryz.prog 136 #[] w fun e w' => ∃ g1 g2, e = .returned (.agg #[.map (some g1), .map (some g2)]) ∧ w.heap.size ≤ g1 ∧ w.heap.size ≤ g2 ∧ Both w' g1 g2 [] ∧ Below w.heap.size w w' := by
  have hmm := @run_makeMap Tryz.prog
  go_enter Tryz.func136, Tryz.ntmps136
  go_wp2_with fail
  refine bodyPost_ret (v := .agg #[.map (some (w.heap.size + 1)), .map (some (w.heap.size + 1 + 1))]) (by simp [results, Tryz.results136, go_sem]) rfl ⟨_, _, rfl, by omega, by omega, ⟨?_, ?_, by omega⟩, ?_⟩
  · have h := mapAt_made (w.alloc (.cells #[.map (some (w.heap.size + 1)), .map (some (w.heap.size + 1 + 1))] 138)) Tryz.prog 53
    have hs : (w.alloc (.cells #[.map (some (w.heap.size + 1)), .map (some (w.heap.size + 1 + 1))] 138)).heap.size = w.heap.size + 1 := by simp
    rw [hs] at h
    exact h.below ((Below.refl _ _).alloc (Nat.le_refl _) _) (by simp)
  · have h := mapAt_made ((w.alloc (.cells #[.map (some (w.heap.size + 1)), .map (some (w.heap.size + 1 + 1))] 138)).alloc (.map #[] 0)) Tryz.prog 3
    have hs : ((w.alloc (.cells #[.map (some (w.heap.size + 1)), .map (some (w.heap.size + 1 + 1))] 138)).alloc (.map #[] 0)).heap.size = w.heap.size + 1 + 1 := by simp
    rwa [hs] at h
  · exact (((Below.refl _ _).alloc (Nat.le_refl _) _).alloc (by simp) _).alloc (by simp; omega) _

set_option maxRecDepth 100000 in
set_option maxHeartbeats 800000 in
theorem join_new (g1 g2 : Nat) (es : List (Int × Int)) (a p : Int) (w : World) (hb : Both w g1 g2 es) (wa : (Lit.int .i64 a).wf = true) (wp : (Lit.int .i64 p).wf = true) (hn : es.length ≤ 4194304) (hno : (a, p) ∉ es) :
    Calls Tryz.prog 137 #[.agg #[.map (some g1), .map (some g2)], .agg #[.int .i64 a, .int .i64 p], .int .i64 (500 + (es.length : Int))] w fun e w' => e = .returned (.tuple #[]) ∧ Both w' g1 g2 (es ++ [(a, p)]) ∧ Two g1 g2 w w' := by
  obtain ⟨kl, hkl⟩ := keyEnd wa wp
  have hkp := keyOf_int_mk Tryz.underlying3 (pV_wf hn)
  have HKL := Lib.hid hkl
  have HKP := Lib.hid hkp
  have HB : Hid (∀ o1 o2, Both ((w.alloc o1).alloc o2) g1 g2 es) := fun o1 o2 => hb.later (((Below.refl _ _).alloc (Nat.le_refl _) _).alloc (by simp) _)
  have l1 := hb.lt.1
  have l2 := hb.lt.2
  have hne := hb.2.2
  have HN2 : Hid (∀ q ∈ keysL es, q.1 ≠ .int .i64 (500 + (es.length : Int))) := keys_miss (by omega)
  have HN1 : Hid (∀ q ∈ valsL es, q.1 ≠ .agg #[.int .i64 a, .int .i64 p]) := vals_miss hno
  have HV : Hid (valsL (es ++ [(a, p)]) = valsL es ++ [(.agg #[.int .i64 a, .int .i64 p], .int .i64 (500 + (es.length : Int)))]) := by show valsL _ = _; rw [valsL_snoc, if_neg hno]; rfl
  have HK : Hid (keysL (es ++ [(a, p)]) = keysL es ++ [(.int .i64 (500 + (es.length : Int)), .agg #[.int .i64 a, .int .i64 p])]) := by show keysL _ = _; rw [keysL_snoc]; rfl
  clear hkl hkp hb hno
  go_enter Tryz.func137, Tryz.ntmps137
  go_wp2_with (first
    | (at_mapUpdate; refine wpList_store_new _ rfl _ _ _ 136 rfl 3 53 lawInt Tryz.underlying136 g2 (keysL es) rfl (HB.out _ _).2.1 (.int .i64 (500 + (es.length : Int))) (.agg #[.int .i64 a, .int .i64 p]) _ rfl rfl HKP.out HN2.out ?_; intro w3 m3 t3; have T3 : Two g1 g2 _ _ := turned_two t3 (.inr rfl); have c0 : w3.cell? ⟨w.heap.size, 0, none⟩ = some (.map (some g1)) := (by rw [T3.cell (by simp; omega) (by omega) (by omega)]; simp); have c1 : w3.cell? ⟨w.heap.size, 1, none⟩ = some (.map (some g2)) := (by rw [T3.cell (by simp; omega) (by omega) (by omega)]; simp); have d0 : w3.cell? ⟨w.heap.size + 1, 0, none⟩ = some (.int .i64 a) := (by rw [T3.cell (by simp) (by omega) (by omega)]; simp); have d1 : w3.cell? ⟨w.heap.size + 1, 1, none⟩ = some (.int .i64 p) := (by rw [T3.cell (by simp) (by omega) (by omega)]; simp); have K1 := Lib.hid ((HB.out _ _).1.same (t3.grown.block g1 (HB.out _ _).lt.1 (by simpa using hne))); have M3 := Lib.hid m3; clear m3)
    | (at_lookup; refine wpList_look_miss _ rfl _ _ 135 rfl 53 3 lawEnd Tryz.underlying135 (zInt _) g1 (valsL es) rfl K1.out (.agg #[.int .i64 a, .int .i64 p]) _ rfl HKL.out HN1.out ?_)
    | (at_mapUpdate; refine wpList_store_new _ rfl _ _ _ 135 rfl 53 3 lawEnd Tryz.underlying135 g1 (valsL es) rfl K1.out (.agg #[.int .i64 a, .int .i64 p]) (.int .i64 (500 + (es.length : Int))) _ rfl rfl HKL.out HN1.out ?_; intro w4 m4 t4; have T4 : Two g1 g2 _ _ := turned_two t4 (.inl rfl); have M4 := Lib.hid m4; clear m4))
  go_end0
  refine ⟨rfl, ⟨by rw [HV.out]; exact M4.out, by rw [HK.out]; exact M3.out.same (t4.grown.block g2 M3.out.lt (by simpa using Ne.symm hne)), hne⟩, ?_⟩
  exact ((Two.of_below (((Below.refl _ _).alloc (Nat.le_refl _) _).alloc (by simp) _)).trans T3).trans T4

set_option maxRecDepth 100000 in
set_option maxHeartbeats 800000 in
theorem join_dup (g1 g2 : Nat) (es : List (Int × Int)) (a p : Int) (w : World) (hb : Both w g1 g2 es) (wa : (Lit.int .i64 a).wf = true) (wp : (Lit.int .i64 p).wf = true) (hn : es.length ≤ 4194304) (hno : (a, p) ∈ es) :
    Calls Tryz.prog 137 #[.agg #[.map (some g1), .map (some g2)], .agg #[.int .i64 a, .int .i64 p], .int .i64 (500 + (es.length : Int))] w fun e w' => e = .returned (.tuple #[]) ∧ Both w' g1 g2 (es ++ [(a, p)]) ∧ Two g1 g2 w w' := by
  obtain ⟨kl, hkl⟩ := keyEnd wa wp
  have hkp := keyOf_int_mk Tryz.underlying3 (pV_wf hn)
  have HKL := Lib.hid hkl
  have HKP := Lib.hid hkp
  have HB : Hid (∀ o1 o2, Both ((w.alloc o1).alloc o2) g1 g2 es) := fun o1 o2 => hb.later (((Below.refl _ _).alloc (Nat.le_refl _) _).alloc (by simp) _)
  have l1 := hb.lt.1
  have l2 := hb.lt.2
  have hne := hb.2.2
  have HN2 : Hid (∀ q ∈ keysL es, q.1 ≠ .int .i64 (500 + (es.length : Int))) := keys_miss (by omega)
  have HN1 : Hid ((.agg #[.int .i64 a, .int .i64 p], .int .i64 (portI es (a, p))) ∈ valsL es) := vals_hit hno
  have HV : Hid (valsL (es ++ [(a, p)]) = valsL es) := by show valsL _ = _; rw [valsL_snoc, if_pos hno]
  have HK : Hid (keysL (es ++ [(a, p)]) = keysL es ++ [(.int .i64 (500 + (es.length : Int)), .agg #[.int .i64 a, .int .i64 p])]) := by show keysL _ = _; rw [keysL_snoc]; rfl
  clear hkl hkp hb hno
  go_enter Tryz.func137, Tryz.ntmps137
  go_wp2_with (first
    | (at_mapUpdate; refine wpList_store_new _ rfl _ _ _ 136 rfl 3 53 lawInt Tryz.underlying136 g2 (keysL es) rfl (HB.out _ _).2.1 (.int .i64 (500 + (es.length : Int))) (.agg #[.int .i64 a, .int .i64 p]) _ rfl rfl HKP.out HN2.out ?_; intro w3 m3 t3; have T3 : Two g1 g2 _ _ := turned_two t3 (.inr rfl); have c0 : w3.cell? ⟨w.heap.size, 0, none⟩ = some (.map (some g1)) := (by rw [T3.cell (by simp; omega) (by omega) (by omega)]; simp); have c1 : w3.cell? ⟨w.heap.size, 1, none⟩ = some (.map (some g2)) := (by rw [T3.cell (by simp; omega) (by omega) (by omega)]; simp); have d0 : w3.cell? ⟨w.heap.size + 1, 0, none⟩ = some (.int .i64 a) := (by rw [T3.cell (by simp) (by omega) (by omega)]; simp); have d1 : w3.cell? ⟨w.heap.size + 1, 1, none⟩ = some (.int .i64 p) := (by rw [T3.cell (by simp) (by omega) (by omega)]; simp); have K1 := Lib.hid ((HB.out _ _).1.same (t3.grown.block g1 (HB.out _ _).lt.1 (by simpa using hne))); have M3 := Lib.hid m3; clear m3)
    | (at_lookup; refine wpList_look_hit _ rfl _ _ 135 rfl 53 3 lawEnd Tryz.underlying135 (zInt _) g1 (valsL es) rfl K1.out (.agg #[.int .i64 a, .int .i64 p]) _ rfl HKL.out _ HN1.out ?_))
  go_end0
  refine ⟨rfl, ⟨by rw [HV.out]; exact K1.out, by rw [HK.out]; exact M3.out, hne⟩, ?_⟩
  exact (Two.of_below (((Below.refl _ _).alloc (Nat.le_refl _) _).alloc (by simp) _)).trans T3

theorem join_any (g1 g2 : Nat) (es : List (Int × Int)) (a p : Int) (w : World) (hb : Both w g1 g2 es) (wa : (Lit.int .i64 a).wf = true) (wp : (Lit.int .i64 p).wf = true) (hn : es.length ≤ 4194304) :
    Calls Tryz.prog 137 #[.agg #[.map (some g1), .map (some g2)], .agg #[.int .i64 a, .int .i64 p], .int .i64 (500 + (es.length : Int))] w fun e w' => e = .returned (.tuple #[]) ∧ Both w' g1 g2 (es ++ [(a, p)]) ∧ Two g1 g2 w w' := by
  by_cases h : (a, p) ∈ es
  · exact join_dup g1 g2 es a p w hb wa wp hn h
  · exact join_new g1 g2 es a p w hb wa wp hn h

set_option maxRecDepth 100000 in
set_option maxHeartbeats 800000 in
theorem size_any (g1 g2 : Nat) (es : List (Int × Int)) (w : World) (hb : Both w g1 g2 es) :
    Calls Tryz.prog 99 #[.agg #[.map (some g1), .map (some g2)]] w fun e w' => e = .returned (.int .i64 ((valsL es).length : Int)) ∧ Below w.heap.size w w' := by
  have HB : Hid (∀ o1, Both (w.alloc o1) g1 g2 es) := fun o1 => hb.later ((Below.refl _ _).alloc (Nat.le_refl _) _)
  clear hb
  go_enter Tryz.func99, Tryz.ntmps99
  go_wp2_with (at_len; refine wpList_len_at _ rfl _ 135 rfl 53 3 Tryz.underlying135 g1 (valsL es) rfl (HB.out _).1 ?_)
  go_ret
  exact ⟨rfl, (Below.refl _ _).alloc (Nat.le_refl _) _⟩

/-- What valueOf answers. -/
def valV (es : List (Int × Int)) (e : Int × Int) : Value := .tuple #[.int .i64 (portI es e), .bool (decide (e ∈ es))]
set_option maxRecDepth 100000 in
set_option maxHeartbeats 800000 in
theorem value_any (g1 g2 : Nat) (es : List (Int × Int)) (a p : Int) (w : World) (hb : Both w g1 g2 es) (wa : (Lit.int .i64 a).wf = true) (wp : (Lit.int .i64 p).wf = true) :
    Calls Tryz.prog 138 #[.agg #[.map (some g1), .map (some g2)], .agg #[.int .i64 a, .int .i64 p]] w fun e w' => e = .returned (valV es (a, p)) ∧ Below w.heap.size w w' := by
  obtain ⟨kl, hkl⟩ := keyEnd wa wp
  have HKL := Lib.hid hkl
  have HB : Hid (∀ o1 o2, Both ((w.alloc o1).alloc o2) g1 g2 es) := fun o1 o2 => hb.later (((Below.refl _ _).alloc (Nat.le_refl _) _).alloc (by simp) _)
  by_cases hno : (a, p) ∈ es
  · have HN1 : Hid ((.agg #[.int .i64 a, .int .i64 p], .int .i64 (portI es (a, p))) ∈ valsL es) := vals_hit hno
    have HE : Hid (valV es (a, p) = .tuple #[.int .i64 (portI es (a, p)), .bool true]) := by show valV _ _ = _; unfold valV; rw [decide_eq_true hno]
    obtain ⟨q, hq⟩ : ∃ q, q = portI es (a, p) := ⟨_, rfl⟩
    rw [HE.out]
    rw [← hq] at HN1 ⊢
    clear hkl hb hno hq HE
    go_enter Tryz.func138, Tryz.ntmps138
    go_wp2_with (at_lookup; refine wpList_look_hit _ rfl _ _ 135 rfl 53 3 lawEnd Tryz.underlying135 (zInt _) g1 (valsL es) rfl (HB.out _ _).1 (.agg #[.int .i64 a, .int .i64 p]) _ rfl HKL.out _ HN1.out ?_)
    go_ret2
    exact ⟨rfl, ((Below.refl _ _).alloc (Nat.le_refl _) _).alloc (by simp) _⟩
  · have HN1 : Hid (∀ q ∈ valsL es, q.1 ≠ .agg #[.int .i64 a, .int .i64 p]) := vals_miss hno
    have HE : Hid (valV es (a, p) = .tuple #[.int .i64 0, .bool false]) := by show valV _ _ = _; unfold valV; rw [decide_eq_false hno, portI_not hno]
    rw [HE.out]
    clear hkl hb hno HE
    go_enter Tryz.func138, Tryz.ntmps138
    go_wp2_with (at_lookup; refine wpList_look_miss _ rfl _ _ 135 rfl 53 3 lawEnd Tryz.underlying135 (zInt _) g1 (valsL es) rfl (HB.out _ _).1 (.agg #[.int .i64 a, .int .i64 p]) _ rfl HKL.out HN1.out ?_)
    go_ret2
    exact ⟨rfl, ((Below.refl _ _).alloc (Nat.le_refl _) _).alloc (by simp) _⟩

theorem endI_hit {es : List (Int × Int)} {port : Int} (h : 500 ≤ port ∧ port ≤ 500 + (es.length : Int) - 1) : ∃ k, ∃ hk : k < es.length, port = 500 + (k : Int) ∧ endI es port = some es[k] := by
  refine ⟨(port - 500).toNat, by omega, by omega, ?_⟩
  unfold endI
  rw [if_pos h, List.getElem?_eq_getElem (by omega)]
theorem endI_miss {es : List (Int × Int)} {port : Int} (h : ¬ (500 ≤ port ∧ port ≤ 500 + (es.length : Int) - 1)) : endI es port = none := by
  unfold endI
  rw [if_neg h]

set_option maxRecDepth 100000 in
set_option maxHeartbeats 800000 in
theorem key_any (g1 g2 : Nat) (es : List (Int × Int)) (port : Int) (w : World) (hb : Both w g1 g2 es) (wn : (Lit.int .i64 port).wf = true) :
    Calls Tryz.prog 118 #[.agg #[.map (some g1), .map (some g2)], .int .i64 port] w fun e w' => e = .returned (endV (endI es port)) ∧ Below w.heap.size w w' := by
  have hkp := keyOf_int_mk Tryz.underlying3 wn
  have HKP := Lib.hid hkp
  have HB : Hid (∀ o1 o2, Both ((w.alloc o1).alloc o2) g1 g2 es) := fun o1 o2 => hb.later (((Below.refl _ _).alloc (Nat.le_refl _) _).alloc (by simp) _)
  by_cases hin : 500 ≤ port ∧ port ≤ 500 + (es.length : Int) - 1
  · obtain ⟨k, hk, rfl, he⟩ := endI_hit hin
    obtain ⟨⟨a, p⟩, hap⟩ : ∃ x, x = es[k] := ⟨_, rfl⟩
    have HN1 : Hid ((.int .i64 (500 + (k : Int)), .agg #[.int .i64 a, .int .i64 p]) ∈ keysL es) := by have := keys_hit hk; rw [← hap] at this; exact this
    rw [he, ← hap]
    simp only [endV]
    clear hkp hb hin he hap
    go_enter Tryz.func118, Tryz.ntmps118
    go_wp2_with (at_lookup; refine wpList_look_hit _ rfl _ _ 136 rfl 3 53 lawInt Tryz.underlying136 (zEnd _) g2 (keysL es) rfl (HB.out _ _).2.1 (.int .i64 (500 + (k : Int))) _ rfl HKP.out (.agg #[.int .i64 a, .int .i64 p]) HN1.out ?_)
    refine bodyPost_ret (v := .tuple #[.agg #[.int .i64 a, .int .i64 p], .bool true]) (by simp [results, Tryz.results118, go_sem]) rfl ⟨rfl, ?_⟩
    exact (((Below.refl _ _).alloc (Nat.le_refl _) _).alloc (by simp) _).alloc (by simp; omega) _
  · have HN1 : Hid (∀ q ∈ keysL es, q.1 ≠ .int .i64 port) := keys_miss hin
    rw [endI_miss hin]
    simp only [endV]
    clear hkp hb hin
    go_enter Tryz.func118, Tryz.ntmps118
    go_wp2_with (at_lookup; refine wpList_look_miss _ rfl _ _ 136 rfl 3 53 lawInt Tryz.underlying136 (zEnd _) g2 (keysL es) rfl (HB.out _ _).2.1 (.int .i64 port) _ rfl HKP.out HN1.out ?_)
    refine bodyPost_ret (v := .tuple #[.agg #[.int .i64 0, .int .i64 0], .bool false]) (by simp [results, Tryz.results118, go_sem]) rfl ⟨rfl, ?_⟩
    exact (((Below.refl _ _).alloc (Nat.le_refl _) _).alloc (by simp) _).alloc (by simp; omega) _

end Go.Proofs.YtglpijjkihpeeaaGreatDoor
