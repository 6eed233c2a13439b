/- StrOk of the program, at every text. Condition: the text has at most 2^21 bytes. -/
import Derived.Test.YtbhpogddnpaacaaGreatDoorISeq
import Derived.Test.YtbhpogddnpaacaaGreatDoorILin
namespace Go.Proofs.YtbhpogddnpaacaaGreatDoor
open Go.RowKit Go.Shelf
attribute [local go_sem] Oper.semAt_some

theorem all_not {l : List (List UInt8)} {x : List UInt8} (h : x ∈ l) (hx : linB x = false) : l.all linB = false := by
  rw [List.all_eq_false]; exact ⟨x, h, by simp [hx]⟩

set_option maxRecDepth 100000 in
set_option maxHeartbeats 2000000 in
theorem implStr_in (n : Nat) (hn : 3 ≤ n) (s : ByteArray) (w : World) (hs : s.size ≤ 2097152) (h120 : ¬ 120 < s.size) :
    CallsIn Fence.wide n Tryz.prog 29 #[.string s] w fun e w' => e = .returned (.bool (strB s.data.toList)) ∧ Below w.heap.size w w' := by
  have h1 : 1 ≤ n := by omega
  have HS : Hid (strB s.data.toList = ((linesL s.data.toList).all linB && linB (restL s.data.toList))) := by
    show strB s.data.toList = _
    unfold strB; rw [len_list, decide_eq_true (by omega)]; rfl
  have hrl := rest_le s.data.toList
  rw [len_list] at hrl
  have sR : (⟨(restL s.data.toList).toArray⟩ : ByteArray).size ≤ 281474976710656 := by show (restL s.data.toList).length ≤ _; omega
  have HR : Hid (∀ w, Calls Tryz.prog 22 #[.string ⟨(restL s.data.toList).toArray⟩] w fun e w' => e = .returned (.bool (linB (restL s.data.toList))) ∧ w = w') := fun w => implLin_any ⟨(restL s.data.toList).toArray⟩ w sR
  refine callsIn_of_wp_marks Tryz.func29 rfl trivial ?_ rfl
  simp only [Tryz.ntmps29, List.size_toArray, List.length_cons, List.length_nil, Nat.reduceAdd, Nat.reduceSub, Array.replicate_succ, Array.replicate_zero, List.push_toArray, List.append_toArray, List.nil_append, List.cons_append]
  gi_wp2_with (refine ⟨trivial, ?_⟩; gi_at_call 24; refine (callsIn_wide.2 (linesOf_any _ _)).mono ?_; rintro e w' ⟨rfl, rfl⟩)
  obtain ⟨W0, hW0⟩ : ∃ W0, (w.alloc (.cells #[.bool false] 4)).alloc (.cells #[.string s] 9) = W0 := ⟨_, rfl⟩
  have hs0 : W0.heap.size = w.heap.size + 2 := by rw [← hW0]; simp
  have bO : Boxed W0 w.heap.size 4 (.bool false) := by rw [← hW0]; exact (Boxed.new w _ _).alloc _
  have bS : Boxed W0 (w.heap.size + 1) 9 (.string s) := by rw [← hW0]; have := Boxed.new (w.alloc (.cells #[.bool false] 4)) 9 (.string s); rwa [World.size_alloc] at this
  have hB0 : Below w.heap.size w W0 := by rw [← hW0]; exact ((Below.refl _ w).alloc (Nat.le_refl _) _).alloc (by simp) _
  rw [hW0]
  refine wpIn_rangeFunc_ownF rfl h1 (gf := 47) (lb := #[.pointer (some ⟨w.heap.size + 1, 0, none⟩)]) rfl trivial (enters_of Tryz.func47 (by kernel_rfl) rfl)
    (tell_stops (n - 1) (by omega) (w.heap.size + 1) s hs W0 (by omega) bS.cell) (fun _ _ => trivial) (fun _ _ _ _ _ _ _ _ => trivial) (Below.refl _ _) (fun _ => rfl)
    (fun pre W => ((∀ y ∈ pre, linB y = true) ∧ W.cell? ⟨w.heap.size, 0, none⟩ = some (.bool false) ∧ W.frozen? ⟨w.heap.size, 0, none⟩ = false) ∧ Below w.heap.size w W)
    (fun c pre W => (c = .ret ∧ (∃ y ∈ pre, linB y = false) ∧ W.cell? ⟨w.heap.size, 0, none⟩ = some (.bool false)) ∧ Below w.heap.size w W)
    (OwnFrom.and (Own.from (fun s A B row hs hg hr => ⟨hs.1, cell_kept hs.2.1 hg hr, (frozen_kept hs.2.1 hg hr).trans hs.2.2⟩) _) (ownFrom_below (Nat.le_refl _) (by omega)))
    (fun c => OwnFrom.and (Own.from (fun s A B row hs hg hr => ⟨hs.1, hs.2.1, cell_kept hs.2.2 hg hr⟩) _) (ownFrom_below (Nat.le_refl _) (by omega)))
    ⟨⟨by simp, bO.cell, bO.frozen⟩, hB0⟩
    (fun x => { tmps := #[.string s, undef, .pointer (some ⟨w.heap.size, 0, none⟩), .string ⟨x.toArray⟩, .string s, .int .i64 (s.size : Int), .bool (decide (120 < (s.size : Int))), .string s, .func (.func 47) #[] #[.pointer (some ⟨w.heap.size + 1, 0, none⟩)], .string ⟨x.toArray⟩, undef, undef, undef, undef, undef, undef], defers := [] }) ?assign ?body ?done ?stop
  case assign =>
    intro l x W K hK
    gi_wp2
    exact hK
  case body =>
    rintro l pre x W ⟨⟨hp, hcr, hfr⟩, hB⟩ _
    have HL : Hid (∀ w, Calls Tryz.prog 22 #[.string ⟨x.toArray⟩] w fun e w' => e = .returned (.bool (linB x)) ∧ w = w') := fun w => implLin_all ⟨x.toArray⟩ w
    have hd : 1 ≤ n - 1 - 1 := by omega
    gi_wp2_with (refine ⟨trivial, ?_⟩; gi_at_call 22; refine (CallsIn.inRound l (callsIn_wide.2 (HL.out _))).mono ?_; rintro e w' ⟨rfl, rfl⟩)
    · rename_i hx
      exact ⟨KeepsOthers.setCell _ _ _, ⟨rfl, ⟨x, by simp, by simpa using hx⟩, World.cell?_setCell_same' _ _ _ (by rw [hcr]; rfl)⟩, hB.setCell (p := ⟨w.heap.size, 0, none⟩) (Nat.le_refl _) _⟩
    · rename_i hx
      exact ⟨KeepsOthers.refl _, trivial, ⟨fun y hy => (List.mem_append.1 hy).elim (hp y) (fun e => by simp at e; subst e; simpa using hx), hcr, hfr⟩, hB⟩
  case done =>
    rintro D xs W hD rfl ⟨⟨hall, hcr, hfr⟩, hB⟩ hK
    gi_wp2_with (refine ⟨trivial, ?_⟩; first
      | (gi_at_call 25; refine (callsIn_wide.2 (rest_any _ _ (by omega))).mono ?_; rintro e w2 ⟨rfl, e2⟩; have e3 := e2.symm; subst e3)
      | (gi_at_call 22; refine (callsIn_wide.2 (HR.out _)).mono ?_; rintro e w2 ⟨rfl, rfl⟩))
    have hK' := (KeepsOthers.setCell W ⟨w.heap.size, 0, none⟩ (.bool (linB (restL s.data.toList)))).same D _ hK rfl
    refine ⟨by simp, .inl ⟨_, _, rfl, run_takeDeferred hK', ?_⟩⟩
    have hc5 := cell_kept (World.cell?_setCell_same' W ⟨w.heap.size, 0, none⟩ (.bool (linB (restL s.data.toList))) (by rw [hcr]; rfl)) (grownBy_putObj' _ D (.deferred none)) (fun r e => by cases e; exact ⟨_, hK', rfl⟩)
    refine ⟨.bool (linB (restL s.data.toList)), ?_, ?_, (hB.setCell (p := ⟨w.heap.size, 0, none⟩) (Nat.le_refl _) _).trans (belowK_b (w := w) (Nat.le_refl _) _ D _ _ (by omega) hK' rfl rfl)⟩
    · simp [results, Tryz.results29, go_sem, hc5]
    · rw [HS.out, List.all_eq_true.2 hall]; rfl
  case stop =>
    rintro D c pre W hD hpre ⟨⟨rfl, ⟨y, hy, hyb⟩, hcr⟩, hB⟩ hK
    gi_wp2
    refine ⟨by simp, .inl ⟨_, _, rfl, run_takeDeferred hK, ?_⟩⟩
    have hc5 := cell_kept hcr (grownBy_putObj' _ D (.deferred none)) (fun r e => by cases e; exact ⟨_, hK, rfl⟩)
    refine ⟨.bool false, ?_, ?_, hB.trans (belowK_b (w := w) (Nat.le_refl _) W D _ _ (by omega) hK rfl rfl)⟩
    · simp [results, Tryz.results29, go_sem, hc5]
    · rw [HS.out, all_not (hpre.subset hy) hyb]; rfl

set_option maxRecDepth 100000 in
set_option maxHeartbeats 800000 in
theorem implStr_any (s : ByteArray) (w : World) (hs : s.size ≤ 2097152) :
    Calls Tryz.prog 29 #[.string s] w fun e w' => e = .returned (.bool (strB s.data.toList)) ∧ Below w.heap.size w w' := by
  by_cases h120 : 120 < s.size
  · go_enter Tryz.func29, Tryz.ntmps29
    go_wp2_with fail
    refine bodyPost_ret (v := .bool false) (by simp [results, Tryz.results29, go_sem]) rfl ⟨ret_bool (by unfold strB; rw [len_list, decide_eq_false (by omega)]; rfl), ?_⟩
    exact (Below.refl _ w).alloc (Nat.le_refl _) _
  · exact callsIn_wide.1 (implStr_in 3 (by omega) s w hs h120)

end Go.Proofs.YtbhpogddnpaacaaGreatDoor
