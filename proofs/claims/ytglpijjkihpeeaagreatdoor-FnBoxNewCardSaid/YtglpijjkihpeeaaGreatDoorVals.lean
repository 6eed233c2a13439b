/- The entries that a table's two maps have: an end's first port, and a port's end. No condition. -/
import Derived.Test.YtglpijjkihpeeaaGreatDoorTabs
namespace Go.Proofs.YtglpijjkihpeeaaGreatDoor
open Go.RowKit

/-- An end as a value; a port as a value. -/
def eV (e : Int × Int) : Value := .agg #[.int .i64 e.1, .int .i64 e.2]
def pV (k : Nat) : Value := .int .i64 (500 + (k : Int))
theorem eV_inj {a b : Int × Int} (h : eV a = eV b) : a = b := by
  obtain ⟨a1, a2⟩ := a
  obtain ⟨b1, b2⟩ := b
  simp [eV] at h
  exact Prod.ext h.1 h.2
theorem pV_inj {a b : Nat} (h : pV a = pV b) : a = b := by
  simp [pV] at h
  omega

/-- The k-th end comes with its port, if it did not stand ahead. -/
def valAt (es : List (Int × Int)) (k : Nat) : Option (Value × Value) := if es.getD k (0, 0) ∈ es.take k then none else some (eV (es.getD k (0, 0)), pV k)
def valsL (es : List (Int × Int)) : List (Value × Value) := (List.range es.length).filterMap (valAt es)
def keysL (es : List (Int × Int)) : List (Value × Value) := (List.range es.length).map fun k => (pV k, eV (es.getD k (0, 0)))

theorem getD_app {es : List (Int × Int)} {e : Int × Int} {k : Nat} (h : k < es.length) : (es ++ [e]).getD k (0, 0) = es.getD k (0, 0) := by
  simp [List.getD, List.getElem?_append_left h]
theorem getD_last (es : List (Int × Int)) (e : Int × Int) : (es ++ [e]).getD es.length (0, 0) = e := by simp [List.getD]
theorem filterMap_same {α β : Type} {f g : α → Option β} : ∀ (l : List α), (∀ x ∈ l, f x = g x) → l.filterMap f = l.filterMap g
  | [], _ => rfl
  | x :: r, h => by
    rw [List.filterMap_cons, List.filterMap_cons, h x (by simp), filterMap_same r fun y hy => h y (by simp [hy])]
theorem valsL_snoc (es : List (Int × Int)) (e : Int × Int) : valsL (es ++ [e]) = if e ∈ es then valsL es else valsL es ++ [(eV e, pV es.length)] := by
  unfold valsL
  rw [List.length_append, List.length_singleton, List.range_succ, List.filterMap_append]
  have h1 : (List.range es.length).filterMap (valAt (es ++ [e])) = (List.range es.length).filterMap (valAt es) := by
    refine filterMap_same _ fun k hk => ?_
    have hk' : k < es.length := List.mem_range.1 hk
    unfold valAt
    rw [getD_app hk', List.take_append_of_le_length (by omega)]
  rw [h1]
  have h2 : valAt (es ++ [e]) es.length = if e ∈ es then none else some (eV e, pV es.length) := by
    unfold valAt
    rw [getD_last]
    simp
  split
  · rename_i h; simp [h2, h]
  · rename_i h; simp [h2, h]
theorem keysL_snoc (es : List (Int × Int)) (e : Int × Int) : keysL (es ++ [e]) = keysL es ++ [(pV es.length, eV e)] := by
  unfold keysL
  rw [List.length_append, List.length_singleton, List.range_succ, List.map_append]
  congr 1
  · refine List.map_congr_left fun k hk => ?_
    rw [getD_app (List.mem_range.1 hk)]
  · simp
theorem take_snocE (es : List (Int × Int)) (k : Nat) (h : k < es.length) : es.take (k + 1) = es.take k ++ [es[k]] := List.take_succ_eq_append_getElem h

theorem valsL_mem {es : List (Int × Int)} {p : Value × Value} (h : p ∈ valsL es) : ∃ k, ∃ hk : k < es.length, p = (eV es[k], pV k) ∧ es[k] ∉ es.take k := by
  obtain ⟨k, hk, h⟩ := List.mem_filterMap.1 h
  have hk' : k < es.length := List.mem_range.1 hk
  have hg : es.getD k (0, 0) = es[k] := by simp [List.getD, hk']
  unfold valAt at h
  rw [hg] at h
  split at h
  · cases h
  · rename_i hn
    exact ⟨k, hk', (Option.some.inj h).symm, hn⟩
theorem vals_miss {es : List (Int × Int)} {e : Int × Int} (h : e ∉ es) : ∀ p ∈ valsL es, p.1 ≠ eV e := by
  intro p hp he
  obtain ⟨k, hk, rfl, _⟩ := valsL_mem hp
  exact h (eV_inj he ▸ List.getElem_mem hk)
theorem keys_miss {es : List (Int × Int)} {port : Int} (h : ¬ (500 ≤ port ∧ port ≤ 500 + (es.length : Int) - 1)) : ∀ p ∈ keysL es, p.1 ≠ .int .i64 port := by
  intro p hp he
  obtain ⟨k, hk, rfl⟩ := List.mem_map.1 hp
  have hk' : k < es.length := List.mem_range.1 hk
  simp [pV] at he
  omega
theorem keys_hit {es : List (Int × Int)} {k : Nat} (h : k < es.length) : (pV k, eV es[k]) ∈ keysL es := by
  refine List.mem_map.2 ⟨k, List.mem_range.2 h, ?_⟩
  simp [List.getD, h]
theorem keysL_len (es : List (Int × Int)) : (keysL es).length = es.length := by simp [keysL]

theorem findI_mem {es : List (Int × Int)} {e : Int × Int} (h : e ∈ es) : ∃ k, ∃ hk : k < es.length, es[k] = e ∧ e ∉ es.take k ∧ findI es e = k := by
  have hs : (es.findIdx? (fun x => x == e)).isSome := by rw [List.findIdx?_isSome]; simpa using h
  obtain ⟨k, hk⟩ := Option.isSome_iff_exists.1 hs
  have hf : findI es e = k := by unfold findI; rw [hk]
  rw [List.findIdx?_eq_some_iff_getElem] at hk
  obtain ⟨h1, h2, h3⟩ := hk
  refine ⟨k, h1, by simpa using h2, fun hm => ?_, hf⟩
  obtain ⟨_, hj, hje⟩ := List.getElem_of_mem hm
  have := h3 _ (Nat.lt_of_lt_of_le hj (by simp; omega))
  rw [List.getElem_take] at hje
  simp [hje] at this
theorem findI_not {es : List (Int × Int)} {e : Int × Int} (h : e ∉ es) : findI es e = -1 :=
  findI_miss fun _ hj he => h (he ▸ List.getElem_mem hj)
theorem findI_neg {es : List (Int × Int)} {e : Int × Int} : findI es e < 0 ↔ e ∉ es := by
  constructor
  · intro h hm
    obtain ⟨k, _, _, _, hf⟩ := findI_mem hm
    omega
  · intro h
    rw [findI_not h]
    omega
theorem vals_hit {es : List (Int × Int)} {e : Int × Int} (h : e ∈ es) : (eV e, .int .i64 (portI es e)) ∈ valsL es := by
  obtain ⟨k, hk, he, hn, hf⟩ := findI_mem h
  refine List.mem_filterMap.2 ⟨k, List.mem_range.2 hk, ?_⟩
  have hg : es.getD k (0, 0) = e := by simp [List.getD, hk, he]
  unfold valAt portI
  rw [hg, if_neg hn, hf, if_neg (by omega)]
  rfl
theorem portI_not {es : List (Int × Int)} {e : Int × Int} (h : e ∉ es) : portI es e = 0 := by
  unfold portI
  rw [if_pos (findI_neg.2 h)]
theorem portI_pos {es : List (Int × Int)} {e : Int × Int} (h : e ∈ es) : 500 ≤ portI es e ∧ portI es e < 500 + es.length := by
  obtain ⟨k, hk, _, _, hf⟩ := findI_mem h
  unfold portI
  rw [hf, if_neg (by omega)]
  omega
theorem portI_zero_iff {es : List (Int × Int)} {e : Int × Int} : ¬ 0 < portI es e ↔ e ∉ es := by
  constructor
  · intro h hm
    have := portI_pos hm
    omega
  · intro h
    rw [portI_not h]
    omega

theorem valsL_le (es : List (Int × Int)) : (valsL es).length ≤ es.length := by
  have := List.length_filterMap_le (valAt es) (List.range es.length)
  simpa [valsL] using this
/-- As many ends have a port as there are just if none stands twice. -/
theorem valsL_full (es : List (Int × Int)) : ((valsL es).length = es.length) ↔ ∀ k, k < es.length → es.getD k (0, 0) ∉ es.take k := by
  have h : (valsL es).length = es.length ↔ (List.range es.length).countP (fun k => (valAt es k).isSome) = (List.range es.length).length := by
    rw [valsL, List.length_filterMap_eq_countP]; simp
  rw [h, List.countP_eq_length]
  constructor
  · intro hall k hk hm
    have := hall k (List.mem_range.2 hk)
    unfold valAt at this
    rw [if_pos hm] at this
    cases this
  · intro hall k hk
    have := hall k (List.mem_range.1 hk)
    simp only [valAt]
    rw [if_neg this]
    rfl
/-- The program's test of a table is the specification's. -/
theorem mapB_vals (es : List (Int × Int)) : mapB es = (decide (es.length ≤ 6) && (es.all (fun e => insB e.1 e.2) && decide ((valsL es).length = es.length))) := by
  rw [Bool.eq_iff_iff]
  simp only [mapB, Bool.and_eq_true, decide_eq_true_eq, List.all_eq_true, List.mem_range, mapP]
  refine and_congr_right fun _ => ?_
  rw [valsL_full]
  constructor
  · intro h
    refine ⟨fun e he => ?_, fun k hk hm => ?_⟩
    · obtain ⟨k, hk, rfl⟩ := List.getElem_of_mem he
      have := (h k hk).1
      simpa [List.getD, hk] using this
    · have := (h k hk).2
      exact findI_neg.1 this hm
  · intro h k hk
    refine ⟨?_, findI_neg.2 (h.2 k hk)⟩
    have := h.1 es[k] (List.getElem_mem hk)
    simpa [List.getD, hk] using this
/-- In a table that is ok as many ends have a port as there are. -/
theorem valsL_ok {es : List (Int × Int)} (h : mapB es = true) : (valsL es).length = es.length := by
  rw [mapB_vals] at h
  simp only [Bool.and_eq_true, decide_eq_true_eq] at h
  exact h.2.2
theorem mapB_le {es : List (Int × Int)} (h : mapB es = true) : es.length ≤ 6 := by
  rw [mapB_vals] at h
  simp only [Bool.and_eq_true, decide_eq_true_eq] at h
  exact h.1
theorem mapB_ins {es : List (Int × Int)} (h : mapB es = true) : ∀ e ∈ es, insB e.1 e.2 = true := by
  rw [mapB_vals] at h
  simp only [Bool.and_eq_true, decide_eq_true_eq, List.all_eq_true] at h
  exact h.2.1
theorem mapB_snoc {es : List (Int × Int)} {e : Int × Int} (h : mapB es = true) (h6 : es.length < 6) (hi : insB e.1 e.2 = true) (hn : e ∉ es) : mapB (es ++ [e]) = true := by
  rw [mapB_vals]
  simp only [Bool.and_eq_true, decide_eq_true_eq, List.all_eq_true]
  refine ⟨by simp; omega, fun x hx => ?_, ?_⟩
  · rcases List.mem_append.1 hx with hx | hx
    · exact mapB_ins h x hx
    · rw [List.mem_singleton.1 hx]; exact hi
  · rw [valsL_snoc, if_neg hn]
    simp [valsL_ok h]
theorem ins_wf {a p : Int} (h : insB a p = true) : (Lit.int .i64 a).wf = true ∧ (Lit.int .i64 p).wf = true := by
  simp only [insB, inB, Bool.and_eq_true, decide_eq_true_eq] at h
  exact ⟨WalkArith.wf_i64 (by omega), WalkArith.wf_i64 (by omega)⟩
theorem mapB_wf {es : List (Int × Int)} (h : mapB es = true) : wfE es := fun e he => ins_wf (mapB_ins h e he)
theorem pV_wf {k : Nat} (h : k ≤ 4194304) : (Lit.int .i64 (500 + (k : Int))).wf = true := WalkArith.wf_i64 (by omega)

end Go.Proofs.YtglpijjkihpeeaaGreatDoor
