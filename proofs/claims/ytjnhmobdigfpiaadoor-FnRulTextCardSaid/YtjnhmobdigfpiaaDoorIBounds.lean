/- readBounds of the program: six numbers, one space between each two. Conditions: the text has at most 2^21 bytes; the variables that are read hold what they are laid with. -/
import Derived.Test.YtjnhmobdigfpiaaDoorWordK
import Derived.Test.YtjnhmobdigfpiaaDoorWords
import Derived.Test.YtjnhmobdigfpiaaDoorRulLaw
import Derived.Test.YtjnhmobdigfpiaaDoorSRulRd
import Derived.Test.YtjnhmobdigfpiaaDoorReadNumR
import Derived.Shelf.Strings.Split
namespace Go.Proofs.YtjnhmobdigfpiaaDoor
open Go.RowKit Go.Sort

theorem numI_numP : numI = numP := rfl
theorem split_any (s : ByteArray) (w : World) (hs : s.size ≤ 2097152) (hv : VarsR w) :
    Calls Tryd.prog 74 #[.string s, .string ⟨#[32]⟩] w fun e w' => ∃ g, e = .returned (.slice (some ⟨g, 0, none⟩) (wordsL s.data.toList).length (wordsL s.data.toList).length) ∧ g < w'.heap.size ∧ RowAt w' g ((wordsL s.data.toList).map strV) ∧ Below w.heap.size w w' := by
  obtain ⟨m, hm⟩ := hv.most
  have hl : (wordsL s.data.toList).length = Lib.countB s ⟨#[32]⟩ + 1 := by
    rw [← splitB_words, List.length_map]
    exact Lib.splitB_all ⟨#[32]⟩ (by decide) 0 _ s rfl
  have hc : (Lib.splitB ⟨#[32]⟩ 0 (Lib.countB s ⟨#[32]⟩) s).map Value.string = (wordsL s.data.toList).map strV := by
    rw [← splitB_words, List.map_map]
    apply List.map_congr_left
    intro b _
    rfl
  refine (Any.strings_Split Tryd.lays146 (by kernel_rfl) s ⟨#[32]⟩ m w (by omega) hm (by decide)).mono ?_
  rintro e w' ⟨rfl, rfl⟩
  refine ⟨w.heap.size, by rw [hl], by simp, fun i hi => ?_, (Below.refl _ _).alloc (Nat.le_refl _) _⟩
  rw [hc]
  obtain ⟨h1, h2⟩ := cell_new w ((wordsL s.data.toList).map strV).toArray 9 i
  exact ⟨h1.trans (by rw [List.getElem?_toArray, List.getElem?_eq_getElem hi]), h2⟩

theorem word_le {l x : List UInt8} (h : x ∈ wordsL l) : x.length ≤ l.length := by
  have h1 := flatW_fold l ([], [])
  have h2 : flatW (wordsF l) = l := by unfold wordsF; rw [h1]; simp [flatW]
  unfold wordsL at h
  unfold flatW at h2
  have h3 := congrArg List.length h2
  rw [List.length_append] at h3
  rcases List.mem_append.1 h with h | h
  · have : x.length ≤ (((wordsF l).1.map (· ++ [32])).flatten).length := by
      generalize (wordsF l).1 = L at h
      induction L with
      | nil => cases h
      | cons a r ih =>
        simp only [List.map_cons, List.flatten_cons, List.length_append]
        rcases List.mem_cons.1 h with rfl | h
        · simp; omega
        · have := ih h; omega
    omega
  · simp at h; subst h; omega
/-- What readBounds answers of six words. -/
def BndPost (xs : List (List UInt8)) (e : Ending) : Prop := (∃ vs : List Int, xs.map numP = vs.map some ∧ e = .returned (.tuple #[.agg (vs.map (Value.int .i64)).toArray, .nilIface])) ∨ ((∃ x ∈ xs, numP x = none) ∧ ∃ t p, e = .returned (.tuple #[.agg #[.int .i64 0, .int .i64 0, .int .i64 0, .int .i64 0, .int .i64 0, .int .i64 0], .iface t p]))
/-- Six stores into a block of six cells, read back. -/
theorem blk_six {w : World} {g : Nat} {t : TypeId} {l : List Value} (h : Blk w g t l) (hl : l.length = 6) (u0 u1 u2 u3 u4 u5 : Value) : Blk ((((((w.setCell ⟨g, 0, none⟩ u0).setCell ⟨g, 1, none⟩ u1).setCell ⟨g, 2, none⟩ u2).setCell ⟨g, 3, none⟩ u3).setCell ⟨g, 4, none⟩ u4).setCell ⟨g, 5, none⟩ u5) g t [u0, u1, u2, u3, u4, u5] := by
  match l, hl with
  | [y0, y1, y2, y3, y4, y5], _ => exact (((((h.set 0 u0).set 1 u1).set 2 u2).set 3 u3).set 4 u4).set 5 u5
theorem blk_new (w : World) (l : List Value) (t : TypeId) : Blk (w.alloc (.cells ⟨l⟩ t)) w.heap.size t l := by
  unfold Blk World.alloc
  simp
theorem blk_zero (w : World) (t : TypeId) : Blk (w.alloc (.cells #[.int .i64 0, .int .i64 0, .int .i64 0, .int .i64 0, .int .i64 0, .int .i64 0] t)) w.heap.size t [.int .i64 0, .int .i64 0, .int .i64 0, .int .i64 0, .int .i64 0, .int .i64 0] := blk_new w [.int .i64 0, .int .i64 0, .int .i64 0, .int .i64 0, .int .i64 0, .int .i64 0] t
theorem below_six {B : Nat} {w X : World} {b : Nat} (h : Below B w X) (hb : B ≤ b) (v0 v1 v2 v3 v4 v5 : Value) : Below B w ((((((X.setCell ⟨b, 0, none⟩ v0).setCell ⟨b, 1, none⟩ v1).setCell ⟨b, 2, none⟩ v2).setCell ⟨b, 3, none⟩ v3).setCell ⟨b, 4, none⟩ v4).setCell ⟨b, 5, none⟩ v5) := (((((h.setCell hb _).setCell hb _).setCell hb _).setCell hb _).setCell hb _).setCell hb _

set_option maxRecDepth 100000 in
set_option maxHeartbeats 3200000 in
theorem bounds_len (s : ByteArray) (w : World) (hs : s.size ≤ 2097152) (h : (wordsL s.data.toList).length ≠ 6) (hv : VarsR w) :
    Calls Tryd.prog 64 #[.string s] w fun e w' => ∃ t p, e = .returned (.tuple #[.agg #[.int .i64 0, .int .i64 0, .int .i64 0, .int .i64 0, .int .i64 0, .int .i64 0], .iface t p]) ∧ Below w.heap.size w w' := by
  obtain ⟨t, p, hn⟩ := hv.noRule
  have hlt := World.block_lt_of_cell? w _ hn
  have hne : (((wordsL s.data.toList).length : Int) == 6) = false := by simp; omega
  have hne2 : (((wordsL s.data.toList).length : Int) != 6) = true := by simp; omega
  have HS : Hid (∀ w, VarsR w → Calls Tryd.prog 74 #[.string s, .string ⟨#[32]⟩] w fun e w' => ∃ g, e = .returned (.slice (some ⟨g, 0, none⟩) (wordsL s.data.toList).length (wordsL s.data.toList).length) ∧ g < w'.heap.size ∧ RowAt w' g ((wordsL s.data.toList).map strV) ∧ Below w.heap.size w w') := fun w h => split_any s w hs h
  have HV := Lib.hid hv
  have H := Lib.hid h
  clear hv h
  go_enter Tryd.func64, Tryd.ntmps64
  have HN0 : Hid (Blk (w.alloc (.cells #[.int .i64 0, .int .i64 0, .int .i64 0, .int .i64 0, .int .i64 0, .int .i64 0] 47)) w.heap.size 47 [.int .i64 0, .int .i64 0, .int .i64 0, .int .i64 0, .int .i64 0, .int .i64 0]) := blk_zero w _
  go_wp2_with fail
  (go_at_call 74; refine (HS.out _ (HV.out.below ((Below.refl _ _).alloc (Nat.le_refl _) _))).mono ?_; rintro e w1 ⟨g, rfl, hg, row, b1⟩; have hk := HN0.out.below b1; have B1 : Hid (Below w.heap.size w w1) := below_box b1)
  have hn1 : w1.cell? ⟨3, 0, none⟩ = some (.iface t p) := (B1.out.cell hlt).trans hn
  clear row b1 hn
  have k0 := (hk.cell 0 _ rfl).1
  have r0 := (hk.cell 0 _ rfl).2
  have k1 := (hk.cell 1 _ rfl).1
  have r1 := (hk.cell 1 _ rfl).2
  have k2 := (hk.cell 2 _ rfl).1
  have r2 := (hk.cell 2 _ rfl).2
  have k3 := (hk.cell 3 _ rfl).1
  have r3 := (hk.cell 3 _ rfl).2
  have k4 := (hk.cell 4 _ rfl).1
  have r4 := (hk.cell 4 _ rfl).2
  have k5 := (hk.cell 5 _ rfl).1
  have r5 := (hk.cell 5 _ rfl).2
  go_wp2_with fail
  go_region
  all_goals
    go_wp2
    have hq := blk_six hk rfl (.int .i64 0) (.int .i64 0) (.int .i64 0) (.int .i64 0) (.int .i64 0) (.int .i64 0)
    have q0 := (hq.cell 0 _ rfl).1
    have q1 := (hq.cell 1 _ rfl).1
    have q2 := (hq.cell 2 _ rfl).1
    have q3 := (hq.cell 3 _ rfl).1
    have q4 := (hq.cell 4 _ rfl).1
    have q5 := (hq.cell 5 _ rfl).1
    refine bodyPost_ret (v := .tuple #[.agg #[.int .i64 0, .int .i64 0, .int .i64 0, .int .i64 0, .int .i64 0, .int .i64 0], .iface t p]) (by simp [results, Tryd.results64, go_sem, q0, q1, q2, q3, q4, q5]) rfl ⟨t, p, rfl, ?_⟩
    repeat (first
      | with_reducible exact B1.out
      | with_reducible refine bR_dr ?_
      | with_reducible refine below_six ?_ (Nat.le_refl _) _ _ _ _ _ _)

set_option maxRecDepth 100000 in
set_option maxHeartbeats 3200000 in
theorem bounds_six (s : ByteArray) (w : World) (hs : s.size ≤ 2097152) (h : (wordsL s.data.toList).length = 6) (hv : VarsR w) :
    Calls Tryd.prog 64 #[.string s] w fun e w' => BndPost (wordsL s.data.toList) e ∧ Below w.heap.size w w' := by
  obtain ⟨xs, hxs⟩ : ∃ xs, xs = wordsL s.data.toList := ⟨_, rfl⟩
  have HS : Hid (∀ w, VarsR w → Calls Tryd.prog 74 #[.string s, .string ⟨#[32]⟩] w fun e w' => ∃ g, e = .returned (.slice (some ⟨g, 0, none⟩) 6 6) ∧ g < w'.heap.size ∧ RowAt w' g (xs.map strV) ∧ Below w.heap.size w w') := fun w hh => by have := split_any s w hs hh; rw [h, ← hxs] at this; exact this
  have hwl := wordsL_len s.data.toList
  have HZ : Hid (∀ x ∈ xs, x.length ≤ 2097152) := fun x hx => by
    rw [hxs] at hx
    have := word_le hx
    have h3 : s.data.toList.length = s.size := Array.length_toList
    omega
  rw [← hxs] at h ⊢
  have H6 := Lib.hid h
  have HV := Lib.hid hv
  clear hv h hxs hwl
  go_enter Tryd.func64, Tryd.ntmps64
  have HN0 : Hid (Blk (w.alloc (.cells #[.int .i64 0, .int .i64 0, .int .i64 0, .int .i64 0, .int .i64 0, .int .i64 0] 47)) w.heap.size 47 [.int .i64 0, .int .i64 0, .int .i64 0, .int .i64 0, .int .i64 0, .int .i64 0]) := blk_zero w _
  go_wp2_with fail
  (go_at_call 74; refine (HS.out _ (HV.out.below ((Below.refl _ _).alloc (Nat.le_refl _) _))).mono ?_; rintro e w1 ⟨g, rfl, hg, row, b1⟩; have hk := HN0.out.below b1; have B1 : Hid (Below w.heap.size w w1) := below_box b1; have hz1 : w.heap.size < w1.heap.size := hk.lt)
  have HK := Lib.hid hk
  have HR := Lib.hid row
  clear hk row b1
  go_wp2_with fail
  obtain ⟨W2, hW2⟩ : ∃ W2, W2 = w1.alloc (.cells #[.int .i64 0, .int .i64 0, .int .i64 0, .int .i64 0, .int .i64 0, .int .i64 0] 47) := ⟨_, rfl⟩
  have HB2 : Hid (Blk W2 w1.heap.size 47 [.int .i64 0, .int .i64 0, .int .i64 0, .int .i64 0, .int .i64 0, .int .i64 0]) := by rw [hW2]; exact blk_zero w1 _
  have B12 : Hid (Below w1.heap.size w1 W2) := by rw [hW2]; exact (Below.refl _ _).alloc (Nat.le_refl _) _
  have hz2 : w1.heap.size < W2.heap.size := HB2.out.lt
  rw [← hW2]
  clear hW2
  go_loopw [3, 6, 7, 8, 9, 19] (fun e6 _ _ _ _ i wr => e6 = .nilIface ∧ ∃ (k : Nat) (vs : List Int), k ≤ 6 ∧ i = .int .i64 k ∧ Hid ((xs.take k).map numP = vs.map some ∧ Blk wr w1.heap.size 47 (vs.map (Value.int .i64) ++ List.replicate (6 - k) (.int .i64 0))) ∧ Below w1.heap.size w1 wr) (fun _ _ _ _ _ i _ => 6 - (intOf i).toNat)
  case atStart => exact ⟨rfl, 0, [], Nat.zero_le _, rfl, ⟨rfl, HB2.out⟩, B12.out⟩
  case round =>
    obtain ⟨rfl, k, vs, hk, rfl, HE, hb⟩ := hrel
    have hbs := hb.size
    by_cases hlt : k < 6
    · have hkx : k < xs.length := by rw [H6.out]; exact hlt
      obtain ⟨x, hx⟩ : ∃ x, x = xs[k] := ⟨_, rfl⟩
      have hrow := (HR.out k (by rw [List.length_map]; exact hkx)).1
      rw [List.getElem_map, ← hx] at hrow
      have hc : wr.cell? ⟨g, k, none⟩ = some (.string ⟨x.toArray⟩) := (hb.cell (p := ⟨g, k, none⟩) hg).trans hrow
      have hxz : x.length ≤ 2097152 := HZ.out x (by rw [hx]; exact List.getElem_mem _)
      have hk3 : (k : Int) < 6 := by omega
      have BW : Hid (Below w.heap.size w wr) := B1.out.trans (hb.mono (by omega))
      have VR : Hid (VarsR wr) := HV.out.below BW.out
      have hvl : vs.length = k := by
        have := congrArg List.length HE.out.1
        simp at this
        have := H6.out
        omega
      have hgr : w1.heap.size < wr.heap.size := HE.out.2.lt
      clear hrow
      rcases hn : numP x with _ | v
      · have HBad : Hid (∃ x ∈ xs, numP x = none) := ⟨x, by rw [hx]; exact List.getElem_mem _, hn⟩
        have HNm : Hid (Calls Tryd.prog 75 #[.string ⟨x.toArray⟩] wr fun e w' => ∃ t p, e = .returned (.tuple #[.int .i64 0, .iface t p]) ∧ Below wr.heap.size wr w') := readNumber_bad ⟨x.toArray⟩ wr (by simp [ByteArray.size]; omega) (by rw [numI_numP]; simpa using hn) VR.out
        have HKW : Hid (Blk wr w.heap.size 47 [.int .i64 0, .int .i64 0, .int .i64 0, .int .i64 0, .int .i64 0, .int .i64 0]) := HK.out.below hb
        clear hn hx hvl HE hb
        go_wp2_with fail
        (go_at_call 75; refine (HNm.out).mono ?_; rintro e w3 ⟨t, p, rfl, b3⟩; have hk3 := HKW.out.below b3; have BW3 : Hid (Below w.heap.size w w3) := BW.out.trans (b3.mono (by omega)); clear b3; have k0 := (hk3.cell 0 _ rfl).1; have r0 := (hk3.cell 0 _ rfl).2; have k1 := (hk3.cell 1 _ rfl).1; have r1 := (hk3.cell 1 _ rfl).2; have k2 := (hk3.cell 2 _ rfl).1; have r2 := (hk3.cell 2 _ rfl).2; have k3 := (hk3.cell 3 _ rfl).1; have r3 := (hk3.cell 3 _ rfl).2; have k4 := (hk3.cell 4 _ rfl).1; have r4 := (hk3.cell 4 _ rfl).2; have k5 := (hk3.cell 5 _ rfl).1; have r5 := (hk3.cell 5 _ rfl).2)
        go_wp2_with fail
        have hq := blk_six hk3 rfl (.int .i64 0) (.int .i64 0) (.int .i64 0) (.int .i64 0) (.int .i64 0) (.int .i64 0)
        have q0 := (hq.cell 0 _ rfl).1
        have q1 := (hq.cell 1 _ rfl).1
        have q2 := (hq.cell 2 _ rfl).1
        have q3 := (hq.cell 3 _ rfl).1
        have q4 := (hq.cell 4 _ rfl).1
        have q5 := (hq.cell 5 _ rfl).1
        refine bodyPost_ret (v := .tuple #[.agg #[.int .i64 0, .int .i64 0, .int .i64 0, .int .i64 0, .int .i64 0, .int .i64 0], .iface t p]) (by simp [results, Tryd.results64, go_sem, q0, q1, q2, q3, q4, q5]) rfl ⟨Or.inr ⟨HBad.out, t, p, rfl⟩, ?_⟩
        exact below_six BW3.out (Nat.le_refl _) _ _ _ _ _ _
      · have HNm : Hid (Calls Tryd.prog 75 #[.string ⟨x.toArray⟩] wr fun e w' => e = .returned (.tuple #[.int .i64 v, .nilIface]) ∧ Below wr.heap.size wr w') := readNumber_ok ⟨x.toArray⟩ v wr (by simp [ByteArray.size]; omega) (by rw [numI_numP]; simpa using hn) VR.out
        have HS1 : Hid ((xs.take (k + 1)).map numP = (vs ++ [v]).map some) := by
          show _ = _
          rw [List.take_succ_eq_append_getElem hkx, List.map_append, HE.out.1, ← hx, List.map_append]; simp [hn]
        have HBk : Hid (Blk wr w1.heap.size 47 (vs.map (Value.int .i64) ++ List.replicate (6 - k) (.int .i64 0))) := HE.out.2
        have HNx : Hid ((vs.map (Value.int .i64) ++ List.replicate (6 - k) (Value.int .i64 0)).set k (Value.int .i64 v) = (vs ++ [v]).map (Value.int .i64) ++ List.replicate (6 - (k + 1)) (Value.int .i64 0)) := by
          show _ = _
          rw [show 6 - k = (6 - (k + 1)) + 1 by omega, List.replicate_succ, List.set_append_right _ _ (by simp; omega)]
          simp [hvl]
        have HGet : Hid ((vs.map (Value.int .i64) ++ List.replicate (6 - k) (Value.int .i64 0))[k]? = some (Value.int .i64 0)) := by
          show _ = _
          rw [List.getElem?_append_right (by simp; omega), show 6 - k = (6 - (k + 1)) + 1 by omega, List.replicate_succ]
          simp [hvl]
        clear hn hx hvl HE
        go_wp2_with fail
        (go_at_call 75; refine (HNm.out).mono ?_; rintro e w3 ⟨rfl, b3⟩; have hb3 := HBk.out.below b3; have z3 := b3.size; have q0 := (hb3.cell k _ HGet.out).1; have f0 := (hb3.cell k _ HGet.out).2)
        go_wp2_with fail
        go_roundw
        case rel => exact ⟨rfl, k + 1, vs ++ [v], by omega, by go_num, ⟨HS1.out, by rw [← HNx.out]; exact hb3.set k _⟩, (hb.trans (b3.mono hbs)).setCell (Nat.le_refl _) _⟩
        case measure => simp [intOf]; omega
    · have hkn : k = 6 := by omega
      subst hkn
      have hT : xs.take 6 = xs := List.take_of_length_le (by rw [H6.out]; exact Nat.le_refl _)
      have hE1 := HE.out.1
      have hE2 := HE.out.2
      rw [hT] at hE1
      simp only [Nat.sub_self, List.replicate_zero, List.append_nil] at hE2
      have hvl : vs.length = 6 := by
        have := congrArg List.length hE1
        simp at this
        have := H6.out
        omega
      match vs, hvl with
      | [a, b, c, d, e, f], _ =>
        have HE1 : Hid (xs.map numP = [a, b, c, d, e, f].map some) := hE1
        have hk3 := HK.out.below hb
        have BW : Hid (Below w.heap.size w wr) := B1.out.trans (hb.mono (by omega))
        have y0 := (hE2.cell 0 _ rfl).1
        have y1 := (hE2.cell 1 _ rfl).1
        have y2 := (hE2.cell 2 _ rfl).1
        have y3 := (hE2.cell 3 _ rfl).1
        have y4 := (hE2.cell 4 _ rfl).1
        have y5 := (hE2.cell 5 _ rfl).1
        have k0 := (hk3.cell 0 _ rfl).1
        have r0 := (hk3.cell 0 _ rfl).2
        have k1 := (hk3.cell 1 _ rfl).1
        have r1 := (hk3.cell 1 _ rfl).2
        have k2 := (hk3.cell 2 _ rfl).1
        have r2 := (hk3.cell 2 _ rfl).2
        have k3 := (hk3.cell 3 _ rfl).1
        have r3 := (hk3.cell 3 _ rfl).2
        have k4 := (hk3.cell 4 _ rfl).1
        have r4 := (hk3.cell 4 _ rfl).2
        have k5 := (hk3.cell 5 _ rfl).1
        have r5 := (hk3.cell 5 _ rfl).2
        clear hE1 hE2 hT HE hb
        go_wp2_with fail
        have hq := blk_six hk3 rfl (.int .i64 a) (.int .i64 b) (.int .i64 c) (.int .i64 d) (.int .i64 e) (.int .i64 f)
        have q0 := (hq.cell 0 _ rfl).1
        have q1 := (hq.cell 1 _ rfl).1
        have q2 := (hq.cell 2 _ rfl).1
        have q3 := (hq.cell 3 _ rfl).1
        have q4 := (hq.cell 4 _ rfl).1
        have q5 := (hq.cell 5 _ rfl).1
        refine bodyPost_ret (v := .tuple #[.agg #[.int .i64 a, .int .i64 b, .int .i64 c, .int .i64 d, .int .i64 e, .int .i64 f], .nilIface]) (by simp [results, Tryd.results64, go_sem, q0, q1, q2, q3, q4, q5]) rfl ⟨Or.inl ⟨[a, b, c, d, e, f], HE1.out, rfl⟩, ?_⟩
        exact below_six BW.out (Nat.le_refl _) _ _ _ _ _ _

end Go.Proofs.YtjnhmobdigfpiaaDoor
