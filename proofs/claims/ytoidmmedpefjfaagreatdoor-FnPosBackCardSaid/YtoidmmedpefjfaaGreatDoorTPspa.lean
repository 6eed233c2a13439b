/- Numbers of at most four digits: what l1Num of the specification reads. No condition. (Several texts, joined: Vals, IMaps, Cell2, IPorts, ITable, PutE, IGive, Number.) -/
import Derived.Test.YtoidmmedpefjfaaGreatDoorTabs
import Derived.Test.YtoidmmedpefjfaaGreatDoorMaps
import Derived.DeepKeys4
import Derived.MapViews
import Derived.Lib.SmallJoins
import Derived.ChangeSame
import Derived.Test.YtoidmmedpefjfaaGreatDoorGen
import Derived.Test.YtoidmmedpefjfaaGreatDoorInside
import Derived.Test.YtoidmmedpefjfaaGreatDoorOwnEnds
import Derived.OwnWalk
import Derived.Test.YtoidmmedpefjfaaGreatDoorPlain

/- The entries that a table's two maps have: an end's first port, and a port's end. No condition. -/
namespace Go.Proofs.YtoidmmedpefjfaaGreatDoor
open Go.RowKit

/-- An end as a value; a port as a value. -/
def eV (e : Int × Int) : Value := .agg #[.int .i64 e.1, .int .i64 e.2]
def pV (k : Nat) : Value := .int .i64 (500 + (k : Int))
theorem eV_inj {a b : Int × Int} (h : eV a = eV b) : a = b := by
  obtain ⟨a1, a2⟩ := a
  obtain ⟨b1, b2⟩ := b
  simp [eV] at h
  exact Prod.ext h.1 h.2
theorem pV_inj {a b : Nat} (h : pV a = pV b) : a = b := by
  simp [pV] at h
  omega

/-- The k-th end comes with its port, if it did not stand ahead. -/
def valAt (es : List (Int × Int)) (k : Nat) : Option (Value × Value) := if es.getD k (0, 0) ∈ es.take k then none else some (eV (es.getD k (0, 0)), pV k)
def valsL (es : List (Int × Int)) : List (Value × Value) := (List.range es.length).filterMap (valAt es)
def keysL (es : List (Int × Int)) : List (Value × Value) := (List.range es.length).map fun k => (pV k, eV (es.getD k (0, 0)))

theorem getD_app {es : List (Int × Int)} {e : Int × Int} {k : Nat} (h : k < es.length) : (es ++ [e]).getD k (0, 0) = es.getD k (0, 0) := by
  simp [List.getD, List.getElem?_append_left h]
theorem getD_last (es : List (Int × Int)) (e : Int × Int) : (es ++ [e]).getD es.length (0, 0) = e := by simp [List.getD]
theorem filterMap_same {α β : Type} {f g : α → Option β} : ∀ (l : List α), (∀ x ∈ l, f x = g x) → l.filterMap f = l.filterMap g
  | [], _ => rfl
  | x :: r, h => by
    rw [List.filterMap_cons, List.filterMap_cons, h x (by simp), filterMap_same r fun y hy => h y (by simp [hy])]
theorem valsL_snoc (es : List (Int × Int)) (e : Int × Int) : valsL (es ++ [e]) = if e ∈ es then valsL es else valsL es ++ [(eV e, pV es.length)] := by
  unfold valsL
  rw [List.length_append, List.length_singleton, List.range_succ, List.filterMap_append]
  have h1 : (List.range es.length).filterMap (valAt (es ++ [e])) = (List.range es.length).filterMap (valAt es) := by
    refine filterMap_same _ fun k hk => ?_
    have hk' : k < es.length := List.mem_range.1 hk
    unfold valAt
    rw [getD_app hk', List.take_append_of_le_length (by omega)]
  rw [h1]
  have h2 : valAt (es ++ [e]) es.length = if e ∈ es then none else some (eV e, pV es.length) := by
    unfold valAt
    rw [getD_last]
    simp
  split
  · rename_i h; simp [h2, h]
  · rename_i h; simp [h2, h]
theorem keysL_snoc (es : List (Int × Int)) (e : Int × Int) : keysL (es ++ [e]) = keysL es ++ [(pV es.length, eV e)] := by
  unfold keysL
  rw [List.length_append, List.length_singleton, List.range_succ, List.map_append]
  congr 1
  · refine List.map_congr_left fun k hk => ?_
    rw [getD_app (List.mem_range.1 hk)]
  · simp
theorem take_snocE (es : List (Int × Int)) (k : Nat) (h : k < es.length) : es.take (k + 1) = es.take k ++ [es[k]] := List.take_succ_eq_append_getElem h

theorem valsL_mem {es : List (Int × Int)} {p : Value × Value} (h : p ∈ valsL es) : ∃ k, ∃ hk : k < es.length, p = (eV es[k], pV k) ∧ es[k] ∉ es.take k := by
  obtain ⟨k, hk, h⟩ := List.mem_filterMap.1 h
  have hk' : k < es.length := List.mem_range.1 hk
  have hg : es.getD k (0, 0) = es[k] := by simp [List.getD, hk']
  unfold valAt at h
  rw [hg] at h
  split at h
  · cases h
  · rename_i hn
    exact ⟨k, hk', (Option.some.inj h).symm, hn⟩
theorem vals_miss {es : List (Int × Int)} {e : Int × Int} (h : e ∉ es) : ∀ p ∈ valsL es, p.1 ≠ eV e := by
  intro p hp he
  obtain ⟨k, hk, rfl, _⟩ := valsL_mem hp
  exact h (eV_inj he ▸ List.getElem_mem hk)
theorem keys_miss {es : List (Int × Int)} {port : Int} (h : ¬ (500 ≤ port ∧ port ≤ 500 + (es.length : Int) - 1)) : ∀ p ∈ keysL es, p.1 ≠ .int .i64 port := by
  intro p hp he
  obtain ⟨k, hk, rfl⟩ := List.mem_map.1 hp
  have hk' : k < es.length := List.mem_range.1 hk
  simp [pV] at he
  omega
theorem keys_hit {es : List (Int × Int)} {k : Nat} (h : k < es.length) : (pV k, eV es[k]) ∈ keysL es := by
  refine List.mem_map.2 ⟨k, List.mem_range.2 h, ?_⟩
  simp [List.getD, h]
theorem keysL_len (es : List (Int × Int)) : (keysL es).length = es.length := by simp [keysL]

theorem findI_mem {es : List (Int × Int)} {e : Int × Int} (h : e ∈ es) : ∃ k, ∃ hk : k < es.length, es[k] = e ∧ e ∉ es.take k ∧ findI es e = k := by
  have hs : (es.findIdx? (fun x => x == e)).isSome := by rw [List.findIdx?_isSome]; simpa using h
  obtain ⟨k, hk⟩ := Option.isSome_iff_exists.1 hs
  have hf : findI es e = k := by unfold findI; rw [hk]
  rw [List.findIdx?_eq_some_iff_getElem] at hk
  obtain ⟨h1, h2, h3⟩ := hk
  refine ⟨k, h1, by simpa using h2, fun hm => ?_, hf⟩
  obtain ⟨_, hj, hje⟩ := List.getElem_of_mem hm
  have := h3 _ (Nat.lt_of_lt_of_le hj (by simp; omega))
  rw [List.getElem_take] at hje
  simp [hje] at this
theorem findI_not {es : List (Int × Int)} {e : Int × Int} (h : e ∉ es) : findI es e = -1 :=
  findI_miss fun _ hj he => h (he ▸ List.getElem_mem hj)
theorem findI_neg {es : List (Int × Int)} {e : Int × Int} : findI es e < 0 ↔ e ∉ es := by
  constructor
  · intro h hm
    obtain ⟨k, _, _, _, hf⟩ := findI_mem hm
    omega
  · intro h
    rw [findI_not h]
    omega
theorem vals_hit {es : List (Int × Int)} {e : Int × Int} (h : e ∈ es) : (eV e, .int .i64 (portI es e)) ∈ valsL es := by
  obtain ⟨k, hk, he, hn, hf⟩ := findI_mem h
  refine List.mem_filterMap.2 ⟨k, List.mem_range.2 hk, ?_⟩
  have hg : es.getD k (0, 0) = e := by simp [List.getD, hk, he]
  unfold valAt portI
  rw [hg, if_neg hn, hf, if_neg (by omega)]
  rfl
theorem portI_not {es : List (Int × Int)} {e : Int × Int} (h : e ∉ es) : portI es e = 0 := by
  unfold portI
  rw [if_pos (findI_neg.2 h)]
theorem portI_pos {es : List (Int × Int)} {e : Int × Int} (h : e ∈ es) : 500 ≤ portI es e ∧ portI es e < 500 + es.length := by
  obtain ⟨k, hk, _, _, hf⟩ := findI_mem h
  unfold portI
  rw [hf, if_neg (by omega)]
  omega
theorem portI_zero_iff {es : List (Int × Int)} {e : Int × Int} : ¬ 0 < portI es e ↔ e ∉ es := by
  constructor
  · intro h hm
    have := portI_pos hm
    omega
  · intro h
    rw [portI_not h]
    omega

theorem valsL_le (es : List (Int × Int)) : (valsL es).length ≤ es.length := by
  have := List.length_filterMap_le (valAt es) (List.range es.length)
  simpa [valsL] using this
/-- As many ends have a port as there are just if none stands twice. -/
theorem valsL_full (es : List (Int × Int)) : ((valsL es).length = es.length) ↔ ∀ k, k < es.length → es.getD k (0, 0) ∉ es.take k := by
  have h : (valsL es).length = es.length ↔ (List.range es.length).countP (fun k => (valAt es k).isSome) = (List.range es.length).length := by
    rw [valsL, List.length_filterMap_eq_countP]; simp
  rw [h, List.countP_eq_length]
  constructor
  · intro hall k hk hm
    have := hall k (List.mem_range.2 hk)
    unfold valAt at this
    rw [if_pos hm] at this
    cases this
  · intro hall k hk
    have := hall k (List.mem_range.1 hk)
    simp only [valAt]
    rw [if_neg this]
    rfl
/-- The program's test of a table is the specification's. -/
theorem mapB_vals (es : List (Int × Int)) : mapB es = (decide (es.length ≤ 6) && (es.all (fun e => insB e.1 e.2) && decide ((valsL es).length = es.length))) := by
  rw [Bool.eq_iff_iff]
  simp only [mapB, Bool.and_eq_true, decide_eq_true_eq, List.all_eq_true, List.mem_range, mapP]
  refine and_congr_right fun _ => ?_
  rw [valsL_full]
  constructor
  · intro h
    refine ⟨fun e he => ?_, fun k hk hm => ?_⟩
    · obtain ⟨k, hk, rfl⟩ := List.getElem_of_mem he
      have := (h k hk).1
      simpa [List.getD, hk] using this
    · have := (h k hk).2
      exact findI_neg.1 this hm
  · intro h k hk
    refine ⟨?_, findI_neg.2 (h.2 k hk)⟩
    have := h.1 es[k] (List.getElem_mem hk)
    simpa [List.getD, hk] using this
/-- In a table that is ok as many ends have a port as there are. -/
theorem valsL_ok {es : List (Int × Int)} (h : mapB es = true) : (valsL es).length = es.length := by
  rw [mapB_vals] at h
  simp only [Bool.and_eq_true, decide_eq_true_eq] at h
  exact h.2.2
theorem mapB_le {es : List (Int × Int)} (h : mapB es = true) : es.length ≤ 6 := by
  rw [mapB_vals] at h
  simp only [Bool.and_eq_true, decide_eq_true_eq] at h
  exact h.1
theorem mapB_ins {es : List (Int × Int)} (h : mapB es = true) : ∀ e ∈ es, insB e.1 e.2 = true := by
  rw [mapB_vals] at h
  simp only [Bool.and_eq_true, decide_eq_true_eq, List.all_eq_true] at h
  exact h.2.1
theorem mapB_snoc {es : List (Int × Int)} {e : Int × Int} (h : mapB es = true) (h6 : es.length < 6) (hi : insB e.1 e.2 = true) (hn : e ∉ es) : mapB (es ++ [e]) = true := by
  rw [mapB_vals]
  simp only [Bool.and_eq_true, decide_eq_true_eq, List.all_eq_true]
  refine ⟨by simp; omega, fun x hx => ?_, ?_⟩
  · rcases List.mem_append.1 hx with hx | hx
    · exact mapB_ins h x hx
    · rw [List.mem_singleton.1 hx]; exact hi
  · rw [valsL_snoc, if_neg hn]
    simp [valsL_ok h]
theorem ins_wf {a p : Int} (h : insB a p = true) : (Lit.int .i64 a).wf = true ∧ (Lit.int .i64 p).wf = true := by
  simp only [insB, inB, Bool.and_eq_true, decide_eq_true_eq] at h
  exact ⟨WalkArith.wf_i64 (by omega), WalkArith.wf_i64 (by omega)⟩
theorem mapB_wf {es : List (Int × Int)} (h : mapB es = true) : wfE es := fun e he => ins_wf (mapB_ins h e he)
theorem pV_wf {k : Nat} (h : k ≤ 4194304) : (Lit.int .i64 (500 + (k : Int))).wf = true := WalkArith.wf_i64 (by omega)

end Go.Proofs.YtoidmmedpefjfaaGreatDoor

/- The program's map both ways: made, joined, asked, counted. Conditions: at most 2^22 ends, all of whose numbers are ints; what is joined comes with the next port. -/
namespace Go.Proofs.YtoidmmedpefjfaaGreatDoor
open Go.RowKit Go.ChangeMaps Go.MapKept Go.WideElems Go.Joins
open Go.Maps (Keyed keyOf_int_mk int_keyed)

set_option maxRecDepth 100000 in
theorem laidOutM : laidOutB Tryz.prog = true := by kernel_rfl
set_option maxRecDepth 100000 in
theorem rowEnd : (34 : TypeId) < Tryz.prog.types.size := of_decide_eq_true (by kernel_rfl)
set_option maxRecDepth 100000 in
theorem deepEnd : Tryz.prog.keyTypeAt (Tryz.prog.types.size + 1) 34 = true := by kernel_rfl
set_option maxRecDepth 100000 in
theorem wideEnd : (match Tryz.prog.underlying 34 with | some (.array _ _) | some (.struct _) => true | _ => false) = true := by kernel_rfl
theorem cellsEndI : Tryz.prog.cellsOf 34 = 2 := by kernel_rfl
set_option maxRecDepth 100000 in
theorem lawEnd : Keyed Tryz.prog 34 := Keyed.of_law (deep_law_laid laidOutM (m := 2) (by omega) rowEnd (by kernel_rfl) wideEnd)
set_option maxRecDepth 100000 in
theorem lawInt : Keyed Tryz.prog 3 := int_keyed Tryz.underlying3
theorem zInt (w : World) : (zeroValue 3).run Tryz.prog w = .ok (.int .i64 0) w := by kernel_rfl
theorem zEnd (w : World) : (zeroValue 34).run Tryz.prog w = .ok (.agg #[.int .i64 0, .int .i64 0]) w := by kernel_rfl
set_option maxRecDepth 100000 in
theorem formedEnd (c0 c1 : Value) : (Value.agg #[c0, c1]).formed Tryz.prog 34 = true := by
  simp [Value.formed, Tryz.underlying34, cellsEndI]
set_option maxRecDepth 100000 in
theorem keyEnd {a p : Int} (wa : (Lit.int .i64 a).wf = true) (wp : (Lit.int .i64 p).wf = true) : ∃ kl, keyOf Tryz.prog 34 (.agg #[.int .i64 a, .int .i64 p]) = some kl := by
  have h : DataW.Trod (H := Unit) (fun _ => ()) Tryz.prog (default : World) 0 (fun _ => true) true 34 (.agg #[.int .i64 a, .int .i64 p]) _ _ :=
    shut_agg2 (y0 := (.lit (.int .i64 a), [])) (y1 := (.lit (.int .i64 p), [])) Tryz.underlying34 (by kernel_rfl) cellsEndI ⟨1, by simp [DataW.trod, Tryz.underlying3, wa]⟩ ⟨1, by simp [DataW.trod, Tryz.underlying3, wp]⟩
  exact ⟨_, (keyOf_asKey deepEnd wideEnd (formedEnd _ _) h).1⟩

/-- Nothing but the maps in these two blocks has turned. -/
structure Two (g1 g2 : Nat) (w w' : World) : Prop where
  os : w'.os = w.os
  tape : w'.tape = w.tape
  output : w'.output = w.output
  size : w.heap.size ≤ w'.heap.size
  block : ∀ k, k < w.heap.size → k ≠ g1 → k ≠ g2 → w'.heap[k]? = w.heap[k]?
theorem Two.refl (g1 g2 : Nat) (w : World) : Two g1 g2 w w := ⟨rfl, rfl, rfl, Nat.le_refl _, fun _ _ _ _ => rfl⟩
theorem Two.trans {g1 g2 : Nat} {a b c : World} (h : Two g1 g2 a b) (k : Two g1 g2 b c) : Two g1 g2 a c :=
  ⟨k.os.trans h.os, k.tape.trans h.tape, k.output.trans h.output, Nat.le_trans h.size k.size, fun i hi h1 h2 => (k.block i (Nat.lt_of_lt_of_le hi h.size) h1 h2).trans (h.block i hi h1 h2)⟩
theorem Two.of_below {g1 g2 : Nat} {w w' : World} (h : Below w.heap.size w w') : Two g1 g2 w w' := ⟨h.os, h.tape, h.output, h.size, fun k hk _ _ => h.block k hk⟩
theorem Two.below {g1 g2 B : Nat} {w w' : World} (h : Two g1 g2 w w') (hB : B ≤ w.heap.size) (h1 : B ≤ g1) (h2 : B ≤ g2) : Below B w w' :=
  ⟨h.os, h.tape, h.output, h.size, fun k hk => h.block k (by omega) (by omega) (by omega)⟩
theorem Two.cell {g1 g2 : Nat} {w w' : World} (h : Two g1 g2 w w') {b i : Nat} (hb : b < w.heap.size) (h1 : b ≠ g1) (h2 : b ≠ g2) : w'.cell? ⟨b, i, none⟩ = w.cell? ⟨b, i, none⟩ := by
  simp only [World.cell?]
  rw [h.block b hb h1 h2]
theorem Two.frozen {g1 g2 : Nat} {w w' : World} (h : Two g1 g2 w w') {b i : Nat} (hb : b < w.heap.size) (h1 : b ≠ g1) (h2 : b ≠ g2) : w'.frozen? ⟨b, i, none⟩ = w.frozen? ⟨b, i, none⟩ :=
  World.frozen?_of_block (h.block b hb h1 h2)
theorem Two.alloc {g1 g2 : Nat} {w w' : World} (h : Two g1 g2 w w') (o : Obj) : Two g1 g2 w (w'.alloc o) := h.trans (Two.of_below ((Below.refl _ _).alloc (Nat.le_refl _) _))
theorem turned_two {g1 g2 : Nat} {w w' : World} {g : Nat} (h : w.mapTurned w' g) (hg : g = g1 ∨ g = g2) : Two g1 g2 w w' := by
  have hr := h.grown
  refine ⟨hr.os, hr.tape, hr.output, hr.size, fun k hk h1 h2 => hr.block k hk fun e => ?_⟩
  injection e with e
  omega

/-- The two maps of these ends: each end's first port, and each port's end. -/
def Both (w : World) (g1 g2 : Nat) (es : List (Int × Int)) : Prop := MapAt Tryz.prog 34 w g1 (valsL es) ∧ MapAt Tryz.prog 3 w g2 (keysL es) ∧ g1 ≠ g2
theorem Both.below {w w' : World} {g1 g2 B : Nat} {es : List (Int × Int)} (h : Both w g1 g2 es) (hb : Below B w w') (h1 : g1 < B) (h2 : g2 < B) : Both w' g1 g2 es :=
  ⟨h.1.below hb h1, h.2.1.below hb h2, h.2.2⟩
theorem Both.lt {w : World} {g1 g2 : Nat} {es : List (Int × Int)} (h : Both w g1 g2 es) : g1 < w.heap.size ∧ g2 < w.heap.size := ⟨h.1.lt, h.2.1.lt⟩
theorem Both.later {w w' : World} {g1 g2 : Nat} {es : List (Int × Int)} (h : Both w g1 g2 es) (hb : Below w.heap.size w w') : Both w' g1 g2 es := h.below hb h.lt.1 h.lt.2

set_option maxRecDepth 100000 in
set_option maxHeartbeats 800000 in
theorem newBoth_any (w : World) :
    Calls Tryz.prog 92 #[] w fun e w' => ∃ g1 g2, e = .returned (.agg #[.map (some g1), .map (some g2)]) ∧ w.heap.size ≤ g1 ∧ w.heap.size ≤ g2 ∧ Both w' g1 g2 [] ∧ Below w.heap.size w w' := by
  have hmm := @run_makeMap Tryz.prog
  go_enter Tryz.func92, Tryz.ntmps92
  go_wp2_with fail
  refine bodyPost_ret (v := .agg #[.map (some (w.heap.size + 1)), .map (some (w.heap.size + 1 + 1))]) (by simp [results, Tryz.results92, go_sem]) rfl ⟨_, _, rfl, by omega, by omega, ⟨?_, ?_, by omega⟩, ?_⟩
  · have h := mapAt_made (w.alloc (.cells #[.map (some (w.heap.size + 1)), .map (some (w.heap.size + 1 + 1))] 65)) Tryz.prog 34
    have hs : (w.alloc (.cells #[.map (some (w.heap.size + 1)), .map (some (w.heap.size + 1 + 1))] 65)).heap.size = w.heap.size + 1 := by simp
    rw [hs] at h
    exact h.below ((Below.refl _ _).alloc (Nat.le_refl _) _) (by simp)
  · have h := mapAt_made ((w.alloc (.cells #[.map (some (w.heap.size + 1)), .map (some (w.heap.size + 1 + 1))] 65)).alloc (.map #[] 0)) Tryz.prog 3
    have hs : ((w.alloc (.cells #[.map (some (w.heap.size + 1)), .map (some (w.heap.size + 1 + 1))] 65)).alloc (.map #[] 0)).heap.size = w.heap.size + 1 + 1 := by simp
    rwa [hs] at h
  · exact (((Below.refl _ _).alloc (Nat.le_refl _) _).alloc (by simp) _).alloc (by simp; omega) _

set_option maxRecDepth 100000 in
set_option maxHeartbeats 800000 in
theorem join_new (g1 g2 : Nat) (es : List (Int × Int)) (a p : Int) (w : World) (hb : Both w g1 g2 es) (wa : (Lit.int .i64 a).wf = true) (wp : (Lit.int .i64 p).wf = true) (hn : es.length ≤ 4194304) (hno : (a, p) ∉ es) :
    Calls Tryz.prog 93 #[.agg #[.map (some g1), .map (some g2)], .agg #[.int .i64 a, .int .i64 p], .int .i64 (500 + (es.length : Int))] w fun e w' => e = .returned (.tuple #[]) ∧ Both w' g1 g2 (es ++ [(a, p)]) ∧ Two g1 g2 w w' := by
  obtain ⟨kl, hkl⟩ := keyEnd wa wp
  have hkp := keyOf_int_mk Tryz.underlying3 (pV_wf hn)
  have HKL := Lib.hid hkl
  have HKP := Lib.hid hkp
  have HB : Hid (∀ o1 o2, Both ((w.alloc o1).alloc o2) g1 g2 es) := fun o1 o2 => hb.later (((Below.refl _ _).alloc (Nat.le_refl _) _).alloc (by simp) _)
  have l1 := hb.lt.1
  have l2 := hb.lt.2
  have hne := hb.2.2
  have HN2 : Hid (∀ q ∈ keysL es, q.1 ≠ .int .i64 (500 + (es.length : Int))) := keys_miss (by omega)
  have HN1 : Hid (∀ q ∈ valsL es, q.1 ≠ .agg #[.int .i64 a, .int .i64 p]) := vals_miss hno
  have HV : Hid (valsL (es ++ [(a, p)]) = valsL es ++ [(.agg #[.int .i64 a, .int .i64 p], .int .i64 (500 + (es.length : Int)))]) := by show valsL _ = _; rw [valsL_snoc, if_neg hno]; rfl
  have HK : Hid (keysL (es ++ [(a, p)]) = keysL es ++ [(.int .i64 (500 + (es.length : Int)), .agg #[.int .i64 a, .int .i64 p])]) := by show keysL _ = _; rw [keysL_snoc]; rfl
  clear hkl hkp hb hno
  go_enter Tryz.func93, Tryz.ntmps93
  go_wp2_with (first
    | (at_mapUpdate; refine wpList_store_new _ rfl _ _ _ 63 rfl 3 34 lawInt Tryz.underlying63 g2 (keysL es) rfl (HB.out _ _).2.1 (.int .i64 (500 + (es.length : Int))) (.agg #[.int .i64 a, .int .i64 p]) _ rfl rfl HKP.out HN2.out ?_; intro w3 m3 t3; have T3 : Two g1 g2 _ _ := turned_two t3 (.inr rfl); have c0 : w3.cell? ⟨w.heap.size, 0, none⟩ = some (.map (some g1)) := (by rw [T3.cell (by simp; omega) (by omega) (by omega)]; simp); have c1 : w3.cell? ⟨w.heap.size, 1, none⟩ = some (.map (some g2)) := (by rw [T3.cell (by simp; omega) (by omega) (by omega)]; simp); have d0 : w3.cell? ⟨w.heap.size + 1, 0, none⟩ = some (.int .i64 a) := (by rw [T3.cell (by simp) (by omega) (by omega)]; simp); have d1 : w3.cell? ⟨w.heap.size + 1, 1, none⟩ = some (.int .i64 p) := (by rw [T3.cell (by simp) (by omega) (by omega)]; simp); have K1 := Lib.hid ((HB.out _ _).1.same (t3.grown.block g1 (HB.out _ _).lt.1 (by simpa using hne))); have M3 := Lib.hid m3; clear m3)
    | (at_lookup; refine wpList_look_miss _ rfl _ _ 62 rfl 34 3 lawEnd Tryz.underlying62 (zInt _) g1 (valsL es) rfl K1.out (.agg #[.int .i64 a, .int .i64 p]) _ rfl HKL.out HN1.out ?_)
    | (at_mapUpdate; refine wpList_store_new _ rfl _ _ _ 62 rfl 34 3 lawEnd Tryz.underlying62 g1 (valsL es) rfl K1.out (.agg #[.int .i64 a, .int .i64 p]) (.int .i64 (500 + (es.length : Int))) _ rfl rfl HKL.out HN1.out ?_; intro w4 m4 t4; have T4 : Two g1 g2 _ _ := turned_two t4 (.inl rfl); have M4 := Lib.hid m4; clear m4))
  go_end0
  refine ⟨rfl, ⟨by rw [HV.out]; exact M4.out, by rw [HK.out]; exact M3.out.same (t4.grown.block g2 M3.out.lt (by simpa using Ne.symm hne)), hne⟩, ?_⟩
  exact ((Two.of_below (((Below.refl _ _).alloc (Nat.le_refl _) _).alloc (by simp) _)).trans T3).trans T4

set_option maxRecDepth 100000 in
set_option maxHeartbeats 800000 in
theorem join_dup (g1 g2 : Nat) (es : List (Int × Int)) (a p : Int) (w : World) (hb : Both w g1 g2 es) (wa : (Lit.int .i64 a).wf = true) (wp : (Lit.int .i64 p).wf = true) (hn : es.length ≤ 4194304) (hno : (a, p) ∈ es) :
    Calls Tryz.prog 93 #[.agg #[.map (some g1), .map (some g2)], .agg #[.int .i64 a, .int .i64 p], .int .i64 (500 + (es.length : Int))] w fun e w' => e = .returned (.tuple #[]) ∧ Both w' g1 g2 (es ++ [(a, p)]) ∧ Two g1 g2 w w' := by
  obtain ⟨kl, hkl⟩ := keyEnd wa wp
  have hkp := keyOf_int_mk Tryz.underlying3 (pV_wf hn)
  have HKL := Lib.hid hkl
  have HKP := Lib.hid hkp
  have HB : Hid (∀ o1 o2, Both ((w.alloc o1).alloc o2) g1 g2 es) := fun o1 o2 => hb.later (((Below.refl _ _).alloc (Nat.le_refl _) _).alloc (by simp) _)
  have l1 := hb.lt.1
  have l2 := hb.lt.2
  have hne := hb.2.2
  have HN2 : Hid (∀ q ∈ keysL es, q.1 ≠ .int .i64 (500 + (es.length : Int))) := keys_miss (by omega)
  have HN1 : Hid ((.agg #[.int .i64 a, .int .i64 p], .int .i64 (portI es (a, p))) ∈ valsL es) := vals_hit hno
  have HV : Hid (valsL (es ++ [(a, p)]) = valsL es) := by show valsL _ = _; rw [valsL_snoc, if_pos hno]
  have HK : Hid (keysL (es ++ [(a, p)]) = keysL es ++ [(.int .i64 (500 + (es.length : Int)), .agg #[.int .i64 a, .int .i64 p])]) := by show keysL _ = _; rw [keysL_snoc]; rfl
  clear hkl hkp hb hno
  go_enter Tryz.func93, Tryz.ntmps93
  go_wp2_with (first
    | (at_mapUpdate; refine wpList_store_new _ rfl _ _ _ 63 rfl 3 34 lawInt Tryz.underlying63 g2 (keysL es) rfl (HB.out _ _).2.1 (.int .i64 (500 + (es.length : Int))) (.agg #[.int .i64 a, .int .i64 p]) _ rfl rfl HKP.out HN2.out ?_; intro w3 m3 t3; have T3 : Two g1 g2 _ _ := turned_two t3 (.inr rfl); have c0 : w3.cell? ⟨w.heap.size, 0, none⟩ = some (.map (some g1)) := (by rw [T3.cell (by simp; omega) (by omega) (by omega)]; simp); have c1 : w3.cell? ⟨w.heap.size, 1, none⟩ = some (.map (some g2)) := (by rw [T3.cell (by simp; omega) (by omega) (by omega)]; simp); have d0 : w3.cell? ⟨w.heap.size + 1, 0, none⟩ = some (.int .i64 a) := (by rw [T3.cell (by simp) (by omega) (by omega)]; simp); have d1 : w3.cell? ⟨w.heap.size + 1, 1, none⟩ = some (.int .i64 p) := (by rw [T3.cell (by simp) (by omega) (by omega)]; simp); have K1 := Lib.hid ((HB.out _ _).1.same (t3.grown.block g1 (HB.out _ _).lt.1 (by simpa using hne))); have M3 := Lib.hid m3; clear m3)
    | (at_lookup; refine wpList_look_hit _ rfl _ _ 62 rfl 34 3 lawEnd Tryz.underlying62 (zInt _) g1 (valsL es) rfl K1.out (.agg #[.int .i64 a, .int .i64 p]) _ rfl HKL.out _ HN1.out ?_))
  go_end0
  refine ⟨rfl, ⟨by rw [HV.out]; exact K1.out, by rw [HK.out]; exact M3.out, hne⟩, ?_⟩
  exact (Two.of_below (((Below.refl _ _).alloc (Nat.le_refl _) _).alloc (by simp) _)).trans T3

theorem join_any (g1 g2 : Nat) (es : List (Int × Int)) (a p : Int) (w : World) (hb : Both w g1 g2 es) (wa : (Lit.int .i64 a).wf = true) (wp : (Lit.int .i64 p).wf = true) (hn : es.length ≤ 4194304) :
    Calls Tryz.prog 93 #[.agg #[.map (some g1), .map (some g2)], .agg #[.int .i64 a, .int .i64 p], .int .i64 (500 + (es.length : Int))] w fun e w' => e = .returned (.tuple #[]) ∧ Both w' g1 g2 (es ++ [(a, p)]) ∧ Two g1 g2 w w' := by
  by_cases h : (a, p) ∈ es
  · exact join_dup g1 g2 es a p w hb wa wp hn h
  · exact join_new g1 g2 es a p w hb wa wp hn h

set_option maxRecDepth 100000 in
set_option maxHeartbeats 800000 in
theorem size_any (g1 g2 : Nat) (es : List (Int × Int)) (w : World) (hb : Both w g1 g2 es) :
    Calls Tryz.prog 62 #[.agg #[.map (some g1), .map (some g2)]] w fun e w' => e = .returned (.int .i64 ((valsL es).length : Int)) ∧ Below w.heap.size w w' := by
  have HB : Hid (∀ o1, Both (w.alloc o1) g1 g2 es) := fun o1 => hb.later ((Below.refl _ _).alloc (Nat.le_refl _) _)
  clear hb
  go_enter Tryz.func62, Tryz.ntmps62
  go_wp2_with (at_len; refine wpList_len_at _ rfl _ 62 rfl 34 3 Tryz.underlying62 g1 (valsL es) rfl (HB.out _).1 ?_)
  go_ret
  exact ⟨rfl, (Below.refl _ _).alloc (Nat.le_refl _) _⟩

/-- What valueOf answers. -/
def valV (es : List (Int × Int)) (e : Int × Int) : Value := .tuple #[.int .i64 (portI es e), .bool (decide (e ∈ es))]
set_option maxRecDepth 100000 in
set_option maxHeartbeats 800000 in
theorem value_any (g1 g2 : Nat) (es : List (Int × Int)) (a p : Int) (w : World) (hb : Both w g1 g2 es) (wa : (Lit.int .i64 a).wf = true) (wp : (Lit.int .i64 p).wf = true) :
    Calls Tryz.prog 64 #[.agg #[.map (some g1), .map (some g2)], .agg #[.int .i64 a, .int .i64 p]] w fun e w' => e = .returned (valV es (a, p)) ∧ Below w.heap.size w w' := by
  obtain ⟨kl, hkl⟩ := keyEnd wa wp
  have HKL := Lib.hid hkl
  have HB : Hid (∀ o1 o2, Both ((w.alloc o1).alloc o2) g1 g2 es) := fun o1 o2 => hb.later (((Below.refl _ _).alloc (Nat.le_refl _) _).alloc (by simp) _)
  by_cases hno : (a, p) ∈ es
  · have HN1 : Hid ((.agg #[.int .i64 a, .int .i64 p], .int .i64 (portI es (a, p))) ∈ valsL es) := vals_hit hno
    have HE : Hid (valV es (a, p) = .tuple #[.int .i64 (portI es (a, p)), .bool true]) := by show valV _ _ = _; unfold valV; rw [decide_eq_true hno]
    obtain ⟨q, hq⟩ : ∃ q, q = portI es (a, p) := ⟨_, rfl⟩
    rw [HE.out]
    rw [← hq] at HN1 ⊢
    clear hkl hb hno hq HE
    go_enter Tryz.func64, Tryz.ntmps64
    go_wp2_with (at_lookup; refine wpList_look_hit _ rfl _ _ 62 rfl 34 3 lawEnd Tryz.underlying62 (zInt _) g1 (valsL es) rfl (HB.out _ _).1 (.agg #[.int .i64 a, .int .i64 p]) _ rfl HKL.out _ HN1.out ?_)
    go_ret2
    exact ⟨rfl, ((Below.refl _ _).alloc (Nat.le_refl _) _).alloc (by simp) _⟩
  · have HN1 : Hid (∀ q ∈ valsL es, q.1 ≠ .agg #[.int .i64 a, .int .i64 p]) := vals_miss hno
    have HE : Hid (valV es (a, p) = .tuple #[.int .i64 0, .bool false]) := by show valV _ _ = _; unfold valV; rw [decide_eq_false hno, portI_not hno]
    rw [HE.out]
    clear hkl hb hno HE
    go_enter Tryz.func64, Tryz.ntmps64
    go_wp2_with (at_lookup; refine wpList_look_miss _ rfl _ _ 62 rfl 34 3 lawEnd Tryz.underlying62 (zInt _) g1 (valsL es) rfl (HB.out _ _).1 (.agg #[.int .i64 a, .int .i64 p]) _ rfl HKL.out HN1.out ?_)
    go_ret2
    exact ⟨rfl, ((Below.refl _ _).alloc (Nat.le_refl _) _).alloc (by simp) _⟩

theorem endI_hit {es : List (Int × Int)} {port : Int} (h : 500 ≤ port ∧ port ≤ 500 + (es.length : Int) - 1) : ∃ k, ∃ hk : k < es.length, port = 500 + (k : Int) ∧ endI es port = some es[k] := by
  refine ⟨(port - 500).toNat, by omega, by omega, ?_⟩
  unfold endI
  rw [if_pos h, List.getElem?_eq_getElem (by omega)]
theorem endI_miss {es : List (Int × Int)} {port : Int} (h : ¬ (500 ≤ port ∧ port ≤ 500 + (es.length : Int) - 1)) : endI es port = none := by
  unfold endI
  rw [if_neg h]

set_option maxRecDepth 100000 in
set_option maxHeartbeats 800000 in
theorem key_any (g1 g2 : Nat) (es : List (Int × Int)) (port : Int) (w : World) (hb : Both w g1 g2 es) (wn : (Lit.int .i64 port).wf = true) :
    Calls Tryz.prog 88 #[.agg #[.map (some g1), .map (some g2)], .int .i64 port] w fun e w' => e = .returned (endV (endI es port)) ∧ Below w.heap.size w w' := by
  have hkp := keyOf_int_mk Tryz.underlying3 wn
  have HKP := Lib.hid hkp
  have HB : Hid (∀ o1 o2, Both ((w.alloc o1).alloc o2) g1 g2 es) := fun o1 o2 => hb.later (((Below.refl _ _).alloc (Nat.le_refl _) _).alloc (by simp) _)
  by_cases hin : 500 ≤ port ∧ port ≤ 500 + (es.length : Int) - 1
  · obtain ⟨k, hk, rfl, he⟩ := endI_hit hin
    obtain ⟨⟨a, p⟩, hap⟩ : ∃ x, x = es[k] := ⟨_, rfl⟩
    have HN1 : Hid ((.int .i64 (500 + (k : Int)), .agg #[.int .i64 a, .int .i64 p]) ∈ keysL es) := by have := keys_hit hk; rw [← hap] at this; exact this
    rw [he, ← hap]
    simp only [endV]
    clear hkp hb hin he hap
    go_enter Tryz.func88, Tryz.ntmps88
    go_wp2_with (at_lookup; refine wpList_look_hit _ rfl _ _ 63 rfl 3 34 lawInt Tryz.underlying63 (zEnd _) g2 (keysL es) rfl (HB.out _ _).2.1 (.int .i64 (500 + (k : Int))) _ rfl HKP.out (.agg #[.int .i64 a, .int .i64 p]) HN1.out ?_)
    refine bodyPost_ret (v := .tuple #[.agg #[.int .i64 a, .int .i64 p], .bool true]) (by simp [results, Tryz.results88, go_sem]) rfl ⟨rfl, ?_⟩
    exact (((Below.refl _ _).alloc (Nat.le_refl _) _).alloc (by simp) _).alloc (by simp; omega) _
  · have HN1 : Hid (∀ q ∈ keysL es, q.1 ≠ .int .i64 port) := keys_miss hin
    rw [endI_miss hin]
    simp only [endV]
    clear hkp hb hin
    go_enter Tryz.func88, Tryz.ntmps88
    go_wp2_with (at_lookup; refine wpList_look_miss _ rfl _ _ 63 rfl 3 34 lawInt Tryz.underlying63 (zEnd _) g2 (keysL es) rfl (HB.out _ _).2.1 (.int .i64 port) _ rfl HKP.out HN1.out ?_)
    refine bodyPost_ret (v := .tuple #[.agg #[.int .i64 0, .int .i64 0], .bool false]) (by simp [results, Tryz.results88, go_sem]) rfl ⟨rfl, ?_⟩
    exact (((Below.refl _ _).alloc (Nat.le_refl _) _).alloc (by simp) _).alloc (by simp; omega) _

end Go.Proofs.YtoidmmedpefjfaaGreatDoor

/- The cells of two new blocks, and of worlds in which they stay. No condition. -/
namespace Go.Proofs.YtoidmmedpefjfaaGreatDoor
open Go.RowKit

theorem cell_two {w w1 : World} {ca cb : Array Value} {ta tb : TypeId}
    (h : Below ((w.alloc (.cells ca ta)).alloc (.cells cb tb)).heap.size ((w.alloc (.cells ca ta)).alloc (.cells cb tb)) w1) :
    (∀ i, w1.cell? ⟨w.heap.size, i, none⟩ = ca[i]? ∧ w1.frozen? ⟨w.heap.size, i, none⟩ = false) ∧ (∀ i, w1.cell? ⟨w.heap.size + 1, i, none⟩ = cb[i]? ∧ w1.frozen? ⟨w.heap.size + 1, i, none⟩ = false) ∧
      Below w.heap.size w w1 ∧ w.heap.size + 2 ≤ w1.heap.size := by
  have hs : ((w.alloc (.cells ca ta)).alloc (.cells cb tb)).heap.size = w.heap.size + 2 := by simp
  have h1 : (w.alloc (.cells ca ta)).heap.size = w.heap.size + 1 := by simp
  rw [hs] at h
  have n1 := fun i => cell_new w ca ta i
  have n2 := fun i => cell_new (w.alloc (.cells ca ta)) cb tb i
  rw [h1] at n2
  refine ⟨fun i => ?_, fun i => ?_, ?_, by have := h.size; rw [hs] at this; exact this⟩
  · rw [h.cell (p := ⟨w.heap.size, i, none⟩) (by simp), h.frozen (p := ⟨w.heap.size, i, none⟩) (by simp), cell_alloc_lt (by simp), frozen_alloc_lt (by simp)]
    exact n1 i
  · rw [h.cell (p := ⟨w.heap.size + 1, i, none⟩) (by simp), h.frozen (p := ⟨w.heap.size + 1, i, none⟩) (by simp)]
    exact n2 i
  · exact (((Below.refl _ _).alloc (Nat.le_refl _) _).alloc (by simp) _).trans (h.mono (by omega))

end Go.Proofs.YtoidmmedpefjfaaGreatDoor

/- A table's ends are all inside; its two maps. Conditions: at most 2^22 ends, all of whose numbers are ints. -/
namespace Go.Proofs.YtoidmmedpefjfaaGreatDoor
open Go.RowKit Go.Sort

set_option maxRecDepth 100000 in
set_option maxHeartbeats 800000 in
theorem allInside_any (v : Value) (es : List (Int × Int)) (w : World) (hn : es.length ≤ 4194304) (ht : TabAt w v es) :
    Calls Tryz.prog 61 #[v] w fun e w' => e = .returned (.bool (es.all (fun e => insB e.1 e.2))) ∧ Below w.heap.size w w' := by
  obtain ⟨ad, cap, rfl, hcap, hr⟩ := ht
  have HR := Lib.hid hr
  clear hr
  go_enter Tryz.func61, Tryz.ntmps61
  go_wp2_with fail
  go_loopw [7] (fun i wr => ∃ k : Nat, k ≤ es.length ∧ i = .int .i64 k ∧ (∀ x ∈ es.take k, insB x.1 x.2 = true) ∧ Below w.heap.size w wr) (fun i _ => es.length - (intOf i).toNat)
  case atStart => exact ⟨0, Nat.zero_le _, rfl, fun x hx => by simp at hx, Below.refl _ _⟩
  case round =>
    obtain ⟨k, hk, rfl, hd, hb⟩ := hrel
    have HD := Lib.hid hd
    clear hd
    by_cases hlt : k < es.length
    · obtain ⟨g, rfl, hrow⟩ := HR.out (by omega)
      obtain ⟨r0, r1⟩ := (hrow.below hb (hrow.lt (by omega))) k hlt
      obtain ⟨⟨a, p⟩, hap⟩ : ∃ x, x = es[k] := ⟨_, rfl⟩
      rw [← hap] at r0 r1
      simp only at r0 r1
      have HA := Lib.hid hap
      have hk2 : (k : Int) ≤ (cap : Int) := by have := hcap.1; omega
      clear hap hrow HR
      by_cases hi : insB a p = true
      · go_wp2_with (go_at_call 60; refine (implInside_any a p _).mono ?_; rintro e w2 ⟨rfl, b2⟩)
        go_roundw
        case rel =>
          refine ⟨k + 1, by omega, by go_num, fun x hx => ?_, (hb.alloc hb.size _).trans (b2.mono (by simp; have := hb.size; omega))⟩
          rw [take_snocE es k hlt] at hx
          rcases List.mem_append.1 hx with hx | hx
          · exact HD.out x hx
          · rw [List.mem_singleton.1 hx, ← HA.out]; exact hi
        case measure => simp [intOf]; omega
      · have hi' : insB a p = false := by simpa using hi
        have HF : Hid (es.all (fun e => insB e.1 e.2) = false) := by
          show es.all _ = false
          rw [List.all_eq_false]
          exact ⟨es[k], List.getElem_mem hlt, by rw [← HA.out]; exact hi⟩
        clear hi
        go_wp2_with (go_at_call 60; refine (implInside_any a p _).mono ?_; rintro e w2 ⟨rfl, b2⟩)
        go_ret
        exact ⟨ret_bool HF.out.symm, (hb.alloc hb.size _).trans (b2.mono (by simp; have := hb.size; omega))⟩
    · have HF : Hid (es.all (fun e => insB e.1 e.2) = true) := by
        show es.all _ = true
        rw [List.all_eq_true]
        exact fun x hx => HD.out x (by rwa [List.take_of_length_le (by omega)])
      go_wp2_with fail
      go_ret
      exact ⟨ret_bool HF.out.symm, hb⟩

theorem Both.setCell {w : World} {g1 g2 : Nat} {es : List (Int × Int)} (h : Both w g1 g2 es) {a : Addr} (h1 : a.block ≠ g1) (h2 : a.block ≠ g2) (u : Value) : Both (w.setCell a u) g1 g2 es :=
  ⟨h.1.same (Below.heap_setCell _ _ _ _ (Ne.symm h1)), h.2.1.same (Below.heap_setCell _ _ _ _ (Ne.symm h2)), h.2.2⟩

theorem join_at (g1 g2 k : Nat) (es : List (Int × Int)) (a p : Int) (w : World) (hk : es.length = k) (hb : Both w g1 g2 es) (wa : (Lit.int .i64 a).wf = true) (wp : (Lit.int .i64 p).wf = true) (hn : k ≤ 4194304) :
    Calls Tryz.prog 93 #[.agg #[.map (some g1), .map (some g2)], .agg #[.int .i64 a, .int .i64 p], .int .i64 (500 + (k : Int))] w fun e w' => e = .returned (.tuple #[]) ∧ Both w' g1 g2 (es ++ [(a, p)]) ∧ Two g1 g2 w w' := by
  subst hk
  exact join_any g1 g2 es a p w hb wa wp hn

set_option maxRecDepth 100000 in
set_option maxHeartbeats 1600000 in
theorem portsOf_any (v : Value) (es : List (Int × Int)) (w : World) (hn : es.length ≤ 4194304) (hwf : wfE es) (ht : TabAt w v es) :
    Calls Tryz.prog 51 #[.agg #[v]] w fun e w' => ∃ g1 g2, e = .returned (.agg #[.map (some g1), .map (some g2)]) ∧ w.heap.size ≤ g1 ∧ w.heap.size ≤ g2 ∧ Both w' g1 g2 es ∧ Below w.heap.size w w' := by
  obtain ⟨ad, cap, rfl, hcap, hr⟩ := ht
  have HR := Lib.hid hr
  have HW := Lib.hid hwf
  clear hr hwf
  go_enter Tryz.func51, Tryz.ntmps51
  go_wp2_with fail
  (go_at_call 92; refine (newBoth_any _).mono ?_; rintro e w1 ⟨g1, g2, rfl, hg1, hg2, hb, b1⟩; obtain ⟨cA, cB, b01, z1⟩ := cell_two b1; have t0 := (cA 0).1; have r0 := (cB 0).1; have r1 := (cB 1).1; have f0 := (cB 0).2; have f1 := (cB 1).2; simp at t0 r0 r1 hg1 hg2; have l1 := hb.lt.1; have l2 := hb.lt.2; have HB := Lib.hid hb; have B1 := Lib.hid b01; have t1 : ∀ o, (w1.alloc o).cell? ⟨w.heap.size, 0, none⟩ = some (.slice ad es.length cap) := (fun o => by rw [cell_alloc_lt (by omega)]; exact t0); clear hb b01 cA cB b1)
  go_wp2_with fail
  obtain ⟨W3, hW3⟩ : ∃ W3, W3 = w1.alloc (.cells #[.map (some g1), .map (some g2)] 65) := ⟨_, rfl⟩
  obtain ⟨b3, hb3⟩ : ∃ b3, b3 = w1.heap.size := ⟨_, rfl⟩
  have p0 : W3.cell? ⟨b3, 0, none⟩ = some (.map (some g1)) := by rw [hW3, hb3]; exact (cell_new w1 _ _ 0).1
  have p1 : W3.cell? ⟨b3, 1, none⟩ = some (.map (some g2)) := by rw [hW3, hb3]; exact (cell_new w1 _ _ 1).1
  have r30 : W3.cell? ⟨w.heap.size + 1, 0, none⟩ = some (.map none) := by rw [hW3, cell_alloc_lt (by omega)]; exact r0
  have r31 : W3.cell? ⟨w.heap.size + 1, 1, none⟩ = some (.map none) := by rw [hW3, cell_alloc_lt (by omega)]; exact r1
  have f30 : W3.frozen? ⟨w.heap.size + 1, 0, none⟩ = false := by rw [hW3, frozen_alloc_lt (by omega)]; exact f0
  have f31 : W3.frozen? ⟨w.heap.size + 1, 1, none⟩ = false := by rw [hW3, frozen_alloc_lt (by omega)]; exact f1
  have HB3 : Hid (Both W3 g1 g2 []) := by rw [hW3]; exact HB.out.later ((Below.refl _ _).alloc (Nat.le_refl _) _)
  have B3 : Hid (Below w.heap.size w W3) := by rw [hW3]; exact B1.out.alloc B1.out.size _
  have z3 : b3 < W3.heap.size := by rw [hW3, hb3]; simp
  rw [← hW3, ← hb3]
  rw [← hb3] at z1 l1 l2
  clear hW3 hb3 HB B1 t0 t1 r0 r1 f0 f1
  go_loopw [10] (fun i wr => ∃ k : Nat, k ≤ es.length ∧ i = .int .i64 k ∧ Both wr g1 g2 (es.take k) ∧ Two g1 g2 W3 wr) (fun i _ => es.length - (intOf i).toNat)
  case atStart => exact ⟨0, Nat.zero_le _, rfl, HB3.out, Two.refl _ _ _⟩
  case round =>
    obtain ⟨k, hk, rfl, hb, h2⟩ := hrel
    have HB := Lib.hid hb
    have H2 := Lib.hid h2
    have zr := h2.size
    have q0 : wr.cell? ⟨b3, 0, none⟩ = some (.map (some g1)) := (h2.cell z3 (by omega) (by omega)).trans p0
    have q1 : wr.cell? ⟨b3, 1, none⟩ = some (.map (some g2)) := (h2.cell z3 (by omega) (by omega)).trans p1
    have BW : Hid (Below w.heap.size w wr) := B3.out.trans (h2.below B3.out.size (by omega) (by omega))
    clear hb
    by_cases hlt : k < es.length
    · obtain ⟨g, rfl, hrow⟩ := HR.out (by omega)
      obtain ⟨s0, s1⟩ := (hrow.below BW.out (hrow.lt (by omega))) k hlt
      have hw := HW.out es[k] (List.getElem_mem hlt)
      have HT : Hid (es.take (k + 1) = es.take k ++ [es[k]]) := take_snocE es k hlt
      obtain ⟨⟨a, p⟩, hap⟩ : ∃ x, x = es[k] := ⟨_, rfl⟩
      rw [← hap] at s0 s1 hw HT
      simp only at s0 s1 hw
      have HWF := Lib.hid hw
      have hk2 : (k : Int) ≤ (cap : Int) := by have := hcap.1; omega
      have hk3 : (k : Int) ≤ 4194304 := by omega
      have q0' : ∀ o, (wr.alloc o).cell? ⟨b3, 0, none⟩ = some (.map (some g1)) := fun o => by rw [cell_alloc_lt (by omega)]; exact q0
      have q1' : ∀ o, (wr.alloc o).cell? ⟨b3, 1, none⟩ = some (.map (some g2)) := fun o => by rw [cell_alloc_lt (by omega)]; exact q1
      clear hap hrow HR hw h2
      go_wp2_with (go_at_call 93; refine (join_at g1 g2 k (es.take k) a p _ (by simp; omega) (HB.out.later ((Below.refl _ _).alloc (Nat.le_refl _) _)) HWF.out.1 HWF.out.2 (by omega)).mono ?_; rintro e w2 ⟨rfl, hb2, t2⟩; have HB2 := Lib.hid hb2; clear hb2)
      go_roundw
      case rel => exact ⟨k + 1, by omega, by go_num, by rw [HT.out]; exact HB2.out, (H2.out.alloc _).trans t2⟩
      case measure => simp [intOf]; omega
    · have HT : Hid (es.take k = es) := List.take_of_length_le (by omega)
      have r0 : wr.cell? ⟨w.heap.size + 1, 0, none⟩ = some (.map none) := (h2.cell (by omega) (by omega) (by omega)).trans r30
      have r1 : wr.cell? ⟨w.heap.size + 1, 1, none⟩ = some (.map none) := (h2.cell (by omega) (by omega) (by omega)).trans r31
      have f0 : wr.frozen? ⟨w.heap.size + 1, 0, none⟩ = false := (h2.frozen (by omega) (by omega) (by omega)).trans f30
      have f1 : wr.frozen? ⟨w.heap.size + 1, 1, none⟩ = false := (h2.frozen (by omega) (by omega) (by omega)).trans f31
      obtain ⟨e0, e1, e2⟩ := set_two (.map (some g1)) (.map (some g2)) r0 r1
      have E1 := Lib.hid e1
      have E2 := Lib.hid e2
      clear h2 e1 e2
      go_wp2_with fail
      refine bodyPost_ret (v := .agg #[.map (some g1), .map (some g2)]) (by simp [results, Tryz.results51, go_sem, E1.out, E2.out]) rfl ⟨g1, g2, rfl, by omega, by omega, ?_, (BW.out.setCell (by simp) _).setCell (by simp) _⟩
      have hb := HB.out
      rw [HT.out] at hb
      exact (hb.setCell (by simp; omega) (by simp; omega) _).setCell (by simp; omega) (by simp; omega) _

end Go.Proofs.YtoidmmedpefjfaaGreatDoor

/- A table out of its two maps; the port that an end has, or gets. Conditions: at most 2^22 ends, none twice. -/
namespace Go.Proofs.YtoidmmedpefjfaaGreatDoor
open Go.RowKit Go.Sort

set_option maxRecDepth 100000 in
set_option maxHeartbeats 1600000 in
theorem tableOf_any (g1 g2 : Nat) (es : List (Int × Int)) (w : World) (hb : Both w g1 g2 es) (hv : (valsL es).length = es.length) (hn : es.length ≤ 4194304) :
    Calls Tryz.prog 53 #[.agg #[.map (some g1), .map (some g2)]] w fun e w' => ∃ a c, e = .returned (.agg #[.slice a es.length c]) ∧ OwnTab w' w.heap.size (.slice a es.length c) es ∧ Below w.heap.size w w' := by
  obtain ⟨i0, hi, hz0, hz1, hz2⟩ := info_parts infoEnd
  have HB : Hid (∀ w', Below w.heap.size w w' → Both w' g1 g2 es) := fun w' h => hb.later h
  have HS : Hid (∀ w, Both w g1 g2 es → Calls Tryz.prog 62 #[.agg #[.map (some g1), .map (some g2)]] w fun e w' => e = .returned (.int .i64 (es.length : Int)) ∧ Below w.heap.size w w') := fun w h => by rw [← hv]; exact size_any g1 g2 es w h
  clear hb hv
  go_enter Tryz.func53, Tryz.ntmps53
  go_wp2_with fail
  (go_at_call 62; refine (HS.out _ (HB.out _ ((((Below.refl _ _).alloc (Nat.le_refl _) _).alloc (by simp) _).alloc (by simp; omega) _))).mono ?_; rintro e w1 ⟨rfl, b1⟩; obtain ⟨cA, cB, cC, b01, z1⟩ := cell_three b1; have t0 := (cA 0).1; have t1 := (cA 1).1; have r0 := (cB 0).1; have f0 := (cB 0).2; have o0 := (cC 0).1; have h0 := (cC 0).2; simp at t0 t1 r0 o0; have B1 := Lib.hid b01; clear b01 cA cB cC b1)
  go_wp2_with fail
  go_loopw [9] (fun i wr => ∃ (k : Nat) (a : Option Addr) (c : Nat), k ≤ es.length ∧ i = .int .i64 k ∧ wr.cell? ⟨w.heap.size + 1 + 1, 0, none⟩ = some (.slice a k c) ∧ wr.frozen? ⟨w.heap.size + 1 + 1, 0, none⟩ = false ∧ OwnTab wr (w.heap.size + 3) (.slice a k c) (es.take k) ∧ Below (w.heap.size + 2) w1 wr) (fun i _ => es.length - (intOf i).toNat)
  case atStart => exact ⟨0, none, 0, Nat.zero_le _, rfl, o0, h0, ⟨by simp [flatE], .inl ⟨rfl, rfl⟩⟩, Below.refl _ _⟩
  case round =>
    obtain ⟨k, a0, c0, hk, rfl, o1, h1, ho, hb⟩ := hrel
    have HO := Lib.hid ho
    have HBL := Lib.hid hb
    have zr := hb.size
    have BW : Hid (Below w.heap.size w wr) := B1.out.trans (hb.mono (by omega))
    have s0 : wr.cell? ⟨w.heap.size, 0, none⟩ = some (.map (some g1)) := (hb.cell (p := ⟨w.heap.size, 0, none⟩) (by simp)).trans t0
    have s1 : wr.cell? ⟨w.heap.size, 1, none⟩ = some (.map (some g2)) := (hb.cell (p := ⟨w.heap.size, 1, none⟩) (by simp)).trans t1
    clear ho
    by_cases hlt : k < es.length
    · have hE : endI es (500 + (k : Int)) = some es[k] := by
        obtain ⟨j, hj, e1, e2⟩ := endI_hit (es := es) (port := 500 + (k : Int)) (by omega)
        obtain rfl : k = j := by omega
        exact e2
      have HT : Hid (es.take (k + 1) = es.take k ++ [es[k]]) := take_snocE es k hlt
      obtain ⟨⟨a, p⟩, hap⟩ : ∃ x, x = es[k] := ⟨_, rfl⟩
      rw [← hap] at HT hE
      have HK : Hid (∀ w, Both w g1 g2 es → Calls Tryz.prog 88 #[.agg #[.map (some g1), .map (some g2)], .int .i64 (500 + (k : Int))] w fun e w' => e = .returned (.tuple #[.agg #[.int .i64 a, .int .i64 p], .bool true]) ∧ Below w.heap.size w w') := fun w h => by
        have := key_any g1 g2 es (500 + (k : Int)) w h (pV_wf (by omega))
        rw [hE] at this
        exact this
      have hk3 : (k : Int) ≤ 4194304 := by omega
      clear hap hE hb
      go_wp2_with fail
      (go_at_call 88; refine (HK.out _ (HB.out _ BW.out)).mono ?_; rintro e w2 ⟨rfl, b2⟩; have B2 := Lib.hid b2; have z2 := b2.size; have o2 : ∀ x y, ((w2.alloc x).alloc y).cell? ⟨w.heap.size + 1 + 1, 0, none⟩ = some (.slice a0 k c0) := (fun x y => by rw [cell_alloc_lt (by simp; omega), cell_alloc_lt (by omega), b2.cell (by simp; omega)]; exact o1); have o3 : ∀ x, (w2.alloc x).cell? ⟨w.heap.size + 1 + 1, 0, none⟩ = some (.slice a0 k c0) := (fun x => by rw [cell_alloc_lt (by omega), b2.cell (by simp; omega)]; exact o1); clear b2)
      have HO2 : Hid (∀ x y, OwnTab ((w2.alloc x).alloc y) (w.heap.size + 3) (.slice a0 k c0) (es.take k)) := fun x y => HO.out.below (((B2.out.alloc z2 x).alloc (by simp; omega) y))
      have hlen : (es.take k).length = k := by simp; omega
      go_wp2_with (at_builtin; refine wpList_append_own _ rfl (.tmp 20) (.tmp 22) 23 rfl (w.heap.size + 3) 34 i0 (.agg #[.int .i64 0, .int .i64 0]) 2 16 Tryz.underlying23 hi hz0 hz1 hz2 rfl (by decide) _ _ _ rfl (HO2.out _ _) ⟨w2.heap.size + 1, 0, none⟩ 1 1 [.int .i64 a, .int .i64 p] rfl rfl ?c1 ?c2 ?c3 ?c4 ?c5 ?_)
      case c1 =>
        intro j u hj
        match j, hj with
        | 0, hj => simp at hj; subst hj; simp [Addr.add]
        | 1, hj => simp at hj; subst hj; simp [Addr.add]
      case c2 => intro u hu; simp at hu; rcases hu with rfl | rfl <;> rfl
      case c3 => unfold maxLen; omega
      case c4 => omega
      case c5 => simp; omega
      · intro v' w3 hown' hgrow _
        have hot : OwnTab w3 (w.heap.size + 3) v' (es.take (k + 1)) := by
          show w3.ownsRow _ _ _ _ _ _
          rw [HT.out, flatE_app, List.length_append, hlen]
          simpa [flatE] using hown'
        obtain ⟨a1, c1, hv1⟩ := hot.form
        have hlen1 : (es.take (k + 1)).length = k + 1 := by simp; omega
        rw [hlen1] at hv1
        subst hv1
        have HO3 := Lib.hid hot
        have B3 : Hid (Below (w.heap.size + 3) wr w3) := (((B2.out.mono (by omega)).alloc (by omega) _).alloc (by simp; omega) _).grown hgrow (by simp; omega) (fun j hj => (HO.out.lt j hj).1)
        have o4 : w3.cell? ⟨w.heap.size + 1 + 1, 0, none⟩ = some (.slice a0 k c0) := by rw [B3.out.cell (by simp)]; exact o1
        have h4 : w3.frozen? ⟨w.heap.size + 1 + 1, 0, none⟩ = false := by rw [B3.out.frozen (by simp)]; exact h1
        clear hown' hgrow hot o2 o3
        go_wp2_with fail
        go_roundw
        case rel =>
          refine ⟨k + 1, a1, c1, by omega, by go_num, World.cell?_setCell_same _ _ _ o4, by rw [World.frozen?_setCell]; exact h4, ?_, ?_⟩
          · exact ownsRow_setCell_below (a := ⟨w.heap.size + 1 + 1, 0, none⟩) HO3.out (by simp) _
          · exact (HBL.out.trans (B3.out.mono (by omega))).setCell (by simp) _
        case measure => simp [intOf]; omega
    · have hke : k = es.length := by omega
      subst hke
      have r1 : wr.cell? ⟨w.heap.size + 1, 0, none⟩ = some (.slice none 0 0) := (hb.cell (p := ⟨w.heap.size + 1, 0, none⟩) (by simp)).trans r0
      have f1 : wr.frozen? ⟨w.heap.size + 1, 0, none⟩ = false := (hb.frozen (p := ⟨w.heap.size + 1, 0, none⟩) (by simp)).trans f0
      have HO1 : Hid (OwnTab wr (w.heap.size + 3) (.slice a0 es.length c0) es) := by have := HO.out; rwa [List.take_length] at this
      clear hb
      go_wp2_with fail
      refine bodyPost_ret (v := .agg #[.slice a0 es.length c0]) (by simp [results, Tryz.results53, go_sem, World.cell?_setCell_same _ _ _ r1]) rfl ⟨_, _, rfl, ?_, BW.out.setCell (by simp) _⟩
      exact OwnTab.mono (B := w.heap.size + 3) (ownsRow_setCell_below (a := ⟨w.heap.size + 1, 0, none⟩) HO1.out (by simp) _) (by omega)

end Go.Proofs.YtoidmmedpefjfaaGreatDoor

/- An end more in a table, as data: the cases. No condition. -/
namespace Go.Proofs.YtoidmmedpefjfaaGreatDoor
open Go.RowKit

theorem putE_has {es : List (Int × Int)} {e : Int × Int} (h : e ∈ es) : putE es e = (es, portI es e) := if_pos (by have := portI_pos h; omega)
theorem putE_full {es : List (Int × Int)} {e : Int × Int} (h : e ∉ es) (h6 : es.length = 6) : putE es e = (es, 0) := by
  unfold putE
  rw [if_neg (portI_zero_iff.2 h), if_pos h6]
theorem putE_new {es : List (Int × Int)} {e : Int × Int} (h : e ∉ es) (h6 : es.length ≠ 6) : putE es e = (es ++ [e], 500 + (es.length : Int)) := by
  unfold putE
  rw [if_neg (portI_zero_iff.2 h), if_neg h6]
theorem putE_ok {es : List (Int × Int)} {e : Int × Int} (hm : mapB es = true) (hi : insB e.1 e.2 = true) : mapB (putE es e).1 = true := by
  by_cases h : e ∈ es
  · rw [putE_has h]; exact hm
  · by_cases h6 : es.length = 6
    · rw [putE_full h h6]; exact hm
    · rw [putE_new h h6]
      exact mapB_snoc hm (by have := mapB_le hm; omega) hi h

end Go.Proofs.YtoidmmedpefjfaaGreatDoor

/- The port that an end has, or gets, in the two maps of a table. Conditions: the table is ok; the end is inside. -/
namespace Go.Proofs.YtoidmmedpefjfaaGreatDoor
open Go.RowKit Go.Sort

set_option maxRecDepth 100000 in
set_option maxHeartbeats 1600000 in
theorem givePort_any (g1 g2 : Nat) (es : List (Int × Int)) (a p : Int) (w : World) (hb : Both w g1 g2 es) (hm : mapB es = true) (hi : insB a p = true) :
    Calls Tryz.prog 94 #[.agg #[.map (some g1), .map (some g2)], .agg #[.int .i64 a, .int .i64 p]] w fun e w' => e = .returned (.int .i64 (putE es (a, p)).2) ∧ Both w' g1 g2 (putE es (a, p)).1 ∧ Two g1 g2 w w' := by
  have h6 := mapB_le hm
  obtain ⟨wa, wp⟩ := ins_wf hi
  have hv := valsL_ok hm
  have HB : Hid (∀ w', Below w.heap.size w w' → Both w' g1 g2 es) := fun w' h => hb.later h
  have HS : Hid (∀ w, Both w g1 g2 es → Calls Tryz.prog 62 #[.agg #[.map (some g1), .map (some g2)]] w fun e w' => e = .returned (.int .i64 (es.length : Int)) ∧ Below w.heap.size w w') := fun w h => by rw [← hv]; exact size_any g1 g2 es w h
  have HL := Lib.hid hb.lt
  by_cases hno : (a, p) ∈ es
  · rw [putE_has hno]
    obtain ⟨q, hq⟩ : ∃ q, q = portI es (a, p) := ⟨_, rfl⟩
    have HV : Hid (∀ w, Both w g1 g2 es → Calls Tryz.prog 64 #[.agg #[.map (some g1), .map (some g2)], .agg #[.int .i64 a, .int .i64 p]] w fun e w' => e = .returned (.tuple #[.int .i64 q, .bool true]) ∧ Below w.heap.size w w') := fun w h => by
      have := value_any g1 g2 es a p w h wa wp
      unfold valV at this
      rwa [decide_eq_true hno, ← hq] at this
    simp only [← hq]
    clear hb hm hi hno hv hq wa wp HS
    go_enter Tryz.func94, Tryz.ntmps94
    go_wp2_with (go_at_call 64; refine (HV.out _ (HB.out _ (((Below.refl _ _).alloc (Nat.le_refl _) _).alloc (by simp) _))).mono ?_; rintro e w1 ⟨rfl, b1⟩; obtain ⟨cA, cB, b01, z1⟩ := cell_two b1; clear cA cB)
    go_ret
    exact ⟨rfl, HB.out _ b01, Two.of_below b01⟩
  · have HV : Hid (∀ w, Both w g1 g2 es → Calls Tryz.prog 64 #[.agg #[.map (some g1), .map (some g2)], .agg #[.int .i64 a, .int .i64 p]] w fun e w' => e = .returned (.tuple #[.int .i64 0, .bool false]) ∧ Below w.heap.size w w') := fun w h => by
      have := value_any g1 g2 es a p w h wa wp
      unfold valV at this
      rwa [decide_eq_false hno, portI_not hno] at this
    by_cases h66 : es.length = 6
    · rw [putE_full hno h66]
      have h67 : (6 : Int) ≤ (es.length : Int) := by omega
      clear hb hm hi hno hv wa wp h66 h6
      go_enter Tryz.func94, Tryz.ntmps94
      go_wp2_with (first
        | (go_at_call 64; refine (HV.out _ (HB.out _ (((Below.refl _ _).alloc (Nat.le_refl _) _).alloc (by simp) _))).mono ?_; rintro e w1 ⟨rfl, b1⟩; obtain ⟨cA, cB, b01, z1⟩ := cell_two b1; have t0 := (cA 0).1; have t1 := (cA 1).1; simp at t0 t1; clear cA cB b1)
        | (go_at_call 62; refine (HS.out _ (HB.out _ b01)).mono ?_; rintro e w2 ⟨rfl, b2⟩))
      go_ret
      have b02 : Below w.heap.size w w2 := b01.trans (b2.mono (by omega))
      exact ⟨rfl, HB.out _ b02, Two.of_below b02⟩
    · rw [putE_new hno h66]
      have h67 : (es.length : Int) < 6 := by omega
      have HJ : Hid (∀ w, Both w g1 g2 es → Calls Tryz.prog 93 #[.agg #[.map (some g1), .map (some g2)], .agg #[.int .i64 a, .int .i64 p], .int .i64 (500 + (es.length : Int))] w fun e w' => e = .returned (.tuple #[]) ∧ Both w' g1 g2 (es ++ [(a, p)]) ∧ Two g1 g2 w w') := fun w h => join_any g1 g2 es a p w h wa wp (by omega)
      clear hb hm hi hno hv wa wp h66 h6
      go_enter Tryz.func94, Tryz.ntmps94
      go_wp2_with fail
      (go_at_call 64; refine (HV.out _ (HB.out _ (((Below.refl _ _).alloc (Nat.le_refl _) _).alloc (by simp) _))).mono ?_; rintro e w1 ⟨rfl, b1⟩; obtain ⟨cA, cB, b01, z1⟩ := cell_two b1; have t0 := (cA 0).1; have t1 := (cA 1).1; have e0 := (cB 0).1; have e1 := (cB 1).1; simp at t0 t1 e0 e1; clear cA cB b1)
      go_wp2_with fail
      (go_at_call 62; refine (HS.out _ (HB.out _ b01)).mono ?_; rintro e w2 ⟨rfl, b2⟩; have b02 : Below w.heap.size w w2 := b01.trans (b2.mono (by omega)); have t20 : w2.cell? ⟨w.heap.size, 0, none⟩ = some (.map (some g1)) := (by rw [b2.cell (by simp; omega)]; exact t0); have t21 : w2.cell? ⟨w.heap.size, 1, none⟩ = some (.map (some g2)) := (by rw [b2.cell (by simp; omega)]; exact t1); have e20 : w2.cell? ⟨w.heap.size + 1, 0, none⟩ = some (.int .i64 a) := (by rw [b2.cell (by simp; omega)]; exact e0); have e21 : w2.cell? ⟨w.heap.size + 1, 1, none⟩ = some (.int .i64 p) := (by rw [b2.cell (by simp; omega)]; exact e1); have z2 := b2.size)
      go_wp2_with fail
      (go_at_call 62; refine (HS.out _ (HB.out _ b02)).mono ?_; rintro e w3 ⟨rfl, b3⟩; have b03 : Below w.heap.size w w3 := b02.trans (b3.mono (by omega)); have t30 : w3.cell? ⟨w.heap.size, 0, none⟩ = some (.map (some g1)) := (by rw [b3.cell (by simp; omega)]; exact t20); have t31 : w3.cell? ⟨w.heap.size, 1, none⟩ = some (.map (some g2)) := (by rw [b3.cell (by simp; omega)]; exact t21); have e30 : w3.cell? ⟨w.heap.size + 1, 0, none⟩ = some (.int .i64 a) := (by rw [b3.cell (by simp; omega)]; exact e20); have e31 : w3.cell? ⟨w.heap.size + 1, 1, none⟩ = some (.int .i64 p) := (by rw [b3.cell (by simp; omega)]; exact e21))
      go_wp2_with fail
      (go_at_call 93; refine (HJ.out _ (HB.out _ b03)).mono ?_; rintro e w4 ⟨rfl, hb4, t4⟩; have HB4 := Lib.hid hb4; clear hb4)
      go_wp2_with fail
      go_ret
      exact ⟨rfl, HB4.out, (Two.of_below b03).trans t4⟩

end Go.Proofs.YtoidmmedpefjfaaGreatDoor

/- Numbers of at most four digits: what l1Num of the specification reads. No condition. -/
namespace Go.Proofs.YtoidmmedpefjfaaGreatDoor
open Go.RowKit

set_option maxRecDepth 100000 in
set_option maxHeartbeats 400000 in
theorem specNum_short (s : ByteArray) (w : World) (h : s.size = 0 ∨ 4 < s.size) :
    Calls Tryz.prog 134 #[.string s] w fun e w' => e = .returned (.int .i64 (-1)) ∧ w = w' := by
  rcases h with h | h
  · have h' : ((s.size : Int) == 0) = true := by simp [h]
    clear h
    go_enter Tryz.func134, Tryz.ntmps134
    go_wp2
    go_ret
    exact ⟨rfl, rfl⟩
  · have h' : ((s.size : Int) == 0) = false := by (have : s.size ≠ 0 := by omega); simpa using this
    have h4 : decide ((4 : Int) < (s.size : Int)) = true := by simp; omega
    go_enter Tryz.func134, Tryz.ntmps134
    go_wp2
    go_ret
    exact ⟨rfl, rfl⟩

set_option maxRecDepth 100000 in
set_option maxHeartbeats 400000 in
theorem specNum_some (s : ByteArray) (w : World) (h0 : 0 < s.size) (h4 : s.size ≤ 4) :
    Calls Tryz.prog 134 #[.string s] w fun e w' => e = .returned (.int .i64 (numL s.data.toList)) ∧ Below w.heap.size w w' := by
  have h' : ((s.size : Int) == 0) = false := by (have : s.size ≠ 0 := by omega); simpa using this
  have h5 : decide ((4 : Int) < (s.size : Int)) = false := by simp; omega
  go_enter Tryz.func134, Tryz.ntmps134
  go_wp2
  go_loop [3, 4] (fun n i => ∃ k : Nat, k ≤ s.size ∧ i = .int .i64 k ∧ n = .int .i64 (valL (s.data.toList.take k)) ∧ (∀ c ∈ s.data.toList.take k, isDig c)) (fun _ i => s.size - (intOf i).toNat)
  case atStart => exact ⟨0, Nat.zero_le _, rfl, rfl, by simp⟩
  case round =>
    obtain ⟨k, hk, rfl, rfl, hd⟩ := hrel
    have hv := valL_lt _ hd
    have hl : (s.data.toList.take k).length ≤ 4 := by simp; omega
    have hv2 : valL (s.data.toList.take k) < 10000 := Nat.lt_of_lt_of_le hv (Nat.pow_le_pow_right (by omega) hl)
    clear hv hl
    have HD := Lib.hid hd
    clear hd
    by_cases hlt : k < s.size
    · have hts := take_snoc s k hlt
      have hnum : ¬ isDig s[k] → numL s.data.toList = -1 := by
        intro hn
        unfold numL
        split
        · rfl
        · rw [if_neg]
          intro h; exact hn (h _ (mem_at s k hlt))
      have HT : Hid (s.data.toList.take (k + 1) = s.data.toList.take k ++ [s[k]]) := hts
      have HN : Hid (¬ isDig s[k] → numL s.data.toList = -1) := hnum
      clear hts hnum
      go_wp2
      · go_ret
        refine ⟨ret_int (HN.out ?_).symm, Below.refl _ _⟩
        unfold isDig; omega
      · go_round
        case rel =>
          have hdig : isDig s[k] := by unfold isDig; omega
          refine ⟨k + 1, by omega, by go_num, ?_, ?_⟩
          · rw [HT.out, valL_snoc]
            unfold isDig at hdig
            congr 1; omega
          · rw [HT.out]; intro c hc
            rcases List.mem_append.1 hc with hc | hc
            · exact HD.out c hc
            · simp at hc; subst hc; exact hdig
        case measure => simp [intOf]; omega
      · go_ret
        refine ⟨ret_int (HN.out ?_).symm, Below.refl _ _⟩
        unfold isDig; omega
    · have hk' : s.data.toList.take k = s.data.toList := List.take_of_length_le (by simp; omega)
      have HK := Lib.hid hk'
      clear hk'
      go_wp2_with (go_at_call 132; refine (specPlain_any _ _ (by omega)).mono ?_; rintro e w1 ⟨rfl, b1⟩)
      · have hne : (!Lib.decDigits (valL (s.data.toList.take k)) == s.toList) = true := by assumption
        go_ret
        rw [HK.out, Lib.toList_data] at hne
        refine ⟨ret_int ?_, by assumption⟩
        have hd := HD.out
        rw [HK.out] at hd
        unfold numL
        rw [if_neg (by rw [len_list]; omega), if_pos hd, if_neg (by simpa using hne)]
      · have hne : (!Lib.decDigits (valL (s.data.toList.take k)) == s.toList) = false := by assumption
        go_ret
        rw [HK.out, Lib.toList_data] at hne
        refine ⟨ret_int ?_, by assumption⟩
        have hd := HD.out
        rw [HK.out] at hd
        unfold numL
        rw [if_neg (by rw [len_list]; omega), if_pos hd, if_pos (by simpa using hne), HK.out]

theorem specNum_any (s : ByteArray) (w : World) :
    Calls Tryz.prog 134 #[.string s] w fun e w' => e = .returned (.int .i64 (numL s.data.toList)) ∧ Below w.heap.size w w' := by
  by_cases h : s.size = 0 ∨ 4 < s.size
  · refine (specNum_short s w h).mono ?_
    rintro e w' ⟨rfl, rfl⟩
    refine ⟨ret_int ?_, Below.refl _ _⟩
    unfold numL
    rw [if_pos (by simpa using h)]
  · exact specNum_some s w (by omega) (by omega)

end Go.Proofs.YtoidmmedpefjfaaGreatDoor
