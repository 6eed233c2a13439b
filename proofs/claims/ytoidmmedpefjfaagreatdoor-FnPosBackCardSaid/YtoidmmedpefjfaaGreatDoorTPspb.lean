/- A line as it goes outside, as data. No condition. (Several texts, joined: Words, SRead, Rds, SSays, SLin, SBak, SRwr, LineE.) -/
import Derived.Test.YtoidmmedpefjfaaGreatDoorTPspa
import Derived.Test.YtoidmmedpefjfaaGreatDoorEnd
import Derived.Deep.RegionHeld3
import Derived.Deep.DeepCutAuto
import Derived.Lib.SmallJoins
import Derived.Test.YtoidmmedpefjfaaGreatDoorSText
import Derived.Test.YtoidmmedpefjfaaGreatDoorSPort
import Derived.Test.YtoidmmedpefjfaaGreatDoorGen
import Derived.Test.YtoidmmedpefjfaaGreatDoorLines
import Derived.Test.YtoidmmedpefjfaaGreatDoorSPuts

/- l1Words of the specification: a text's words, one space between, in a list of the call's own. Condition: the text has at most 2^21 bytes. -/
namespace Go.Proofs.YtoidmmedpefjfaaGreatDoor
open Go.RowKit

theorem wordsF_len (l : List UInt8) : (wordsF l).1.length ≤ l.length := by
  have := wordsL_len l
  unfold wordsL at this
  simp at this; omega

theorem wordsF_len2 (l : List UInt8) : (wordsF l).2.length ≤ l.length := by
  have := congrArg List.length (flatW_fold l ([], []))
  simp [flatW] at this
  unfold wordsF; omega
set_option maxRecDepth 100000 in
set_option maxHeartbeats 800000 in
theorem specWords_any (s : ByteArray) (w : World) (hs : s.size ≤ 2097152) :
    Calls Tryz.prog 133 #[.string s] w fun e w' => ∃ v, e = .returned v ∧ w'.ownsRow w.heap.size 9 1 v (wordsL s.data.toList).length ((wordsL s.data.toList).map strV) ∧ Below w.heap.size w w' := by
  obtain ⟨i0, hi, hz0, hz1, hz2⟩ := info_parts infoStr
  go_enter Tryz.func133, Tryz.ntmps133
  go_wp2
  go_loopw [3, 4, 5] (fun v x i wr => ∃ k : Nat, k ≤ s.size ∧ i = .int .i64 k ∧ x = .string ⟨(wordsF (s.data.toList.take k)).2.toArray⟩ ∧ wr.ownsRow w.heap.size 9 1 v (wordsF (s.data.toList.take k)).1.length ((wordsF (s.data.toList.take k)).1.map strV) ∧ Below w.heap.size w wr)
    (fun _ _ i _ => s.size - (intOf i).toNat)
  case atStart => exact ⟨0, Nat.zero_le _, rfl, rfl, World.ownsRow_made w #[] 0 (Nat.le_refl _) (Nat.zero_le _) rfl, (Below.refl _ _).alloc (Nat.le_refl _) _⟩
  case round =>
    obtain ⟨k, hk, rfl, rfl, hown, hb⟩ := hrel
    have hlen := wordsF_len (s.data.toList.take k)
    have hlen3 := wordsF_len2 (s.data.toList.take k)
    have hlen2 : (s.data.toList.take k).length ≤ s.size := by simp; omega
    have hbs := hb.size
    obtain ⟨W0, hW0⟩ : ∃ x, x = wordsF (s.data.toList.take k) := ⟨_, rfl⟩
    rw [← hW0] at hown hlen hlen3 ⊢
    have HW : Hid (W0 = wordsF (s.data.toList.take k)) := hW0
    clear hW0
    by_cases hlt : k < s.size
    · have hsn : Hid (wordsF (s.data.toList.take (k + 1)) = stp W0 s[k]) := by
        show wordsF (s.data.toList.take (k + 1)) = stp W0 s[k]
        rw [take_snoc s k hlt, wordsF_snoc, HW.out]
      by_cases h32 : s[k] = 32
      · have ht : (((s[k]).toNat : Int) == 32) = true := by rw [h32]; rfl
        have H32 : Hid (s[k] = 32) := h32
        clear h32
        go_wp2_with (at_builtin; refine wpList_append_own _ rfl (.tmp 17) (.tmp 19) 40 rfl w.heap.size 9 i0 (.string ⟨#[]⟩) 1 16 Tryz.underlying40 hi hz0 hz1 hz2 rfl (by decide) _ _ _ rfl (hown.alloc _) ⟨wr.heap.size, 0, none⟩ 1 1 [.string ⟨W0.2.toArray⟩] rfl rfl ?c1 ?c2 ?c3 ?c4 ?c5 ?_)
        case c1 =>
          intro j u hj
          match j, hj with
          | 0, hj => simp at hj; subst hj; simp [Addr.add]
        case c2 => intro u hu; simp at hu; subst hu; rfl
        case c3 => unfold maxLen; omega
        case c4 => omega
        case c5 => simp; omega
        · intro v' w1 hown' hgrow _
          go_wp2
          go_roundw
          case rel =>
            refine ⟨k + 1, by omega, by go_num, ?_, ?_, ?_⟩
            · rw [hsn.out, stp, if_pos H32.out]
            · rw [hsn.out, stp, if_pos H32.out]; simpa [strV] using hown'
            · exact (hb.alloc hbs _).grown hgrow (by simp; omega) (fun k hk => (hown.lt k hk).1)
          case measure => simp [intOf]; omega
      · have ht : (((s[k]).toNat : Int) == 32) = false := by
          have e32 : (32 : UInt8).toNat = 32 := rfl
          simp; intro e; exact h32 (UInt8.toNat_inj.1 (by omega))
        have H32 : Hid (¬ s[k] = 32) := h32
        clear h32
        go_wp2
        go_roundw
        case rel =>
          refine ⟨k + 1, by omega, by go_num, ?_, ?_, hb⟩
          · rw [hsn.out, stp, if_neg H32.out, ext_one s k hlt]
          · rw [hsn.out, stp, if_neg H32.out]; exact hown
        case measure => simp [intOf]; omega
    · have hke : s.data.toList.take k = s.data.toList := List.take_of_length_le (by simp; omega)
      have HK : Hid (s.data.toList.take k = s.data.toList) := hke
      clear hke
      go_wp2_with (at_builtin; refine wpList_append_own _ rfl (.tmp 28) (.tmp 30) 40 rfl w.heap.size 9 i0 (.string ⟨#[]⟩) 1 16 Tryz.underlying40 hi hz0 hz1 hz2 rfl (by decide) _ _ _ rfl (hown.alloc _) ⟨wr.heap.size, 0, none⟩ 1 1 [.string ⟨W0.2.toArray⟩] rfl rfl ?d1 ?d2 ?d3 ?d4 ?d5 ?_)
      case d1 =>
        intro j u hj
        match j, hj with
        | 0, hj => simp at hj; subst hj; simp [Addr.add]
      case d2 => intro u hu; simp at hu; subst hu; rfl
      case d3 => unfold maxLen; omega
      case d4 => omega
      case d5 => simp; omega
      · intro v' w1 hown' hgrow _
        go_wp2
        go_ret
        have he : wordsL s.data.toList = W0.1 ++ [W0.2] := by unfold wordsL; rw [HW.out, HK.out]
        refine ⟨_, rfl, ?_, ?_⟩
        · rw [he]; simpa [strV] using hown'
        · exact (hb.alloc hbs _).grown hgrow (by simp; omega) (fun k hk => (hown.lt k hk).1)

end Go.Proofs.YtoidmmedpefjfaaGreatDoor

/- EndRead of the specification, by the words of a text. Condition: the text has at most 2^21 bytes. -/
namespace Go.Proofs.YtoidmmedpefjfaaGreatDoor
open Go.RowKit

/-- The first two cells of a list of the call's own. -/
theorem own_two {w : World} {B : Nat} {e : TypeId} {v a b : Value} (h : w.ownsRow B e 1 v 2 [a, b]) : ∃ g cap, v = .slice (some ⟨g, 0, none⟩) 2 cap ∧ B ≤ g ∧ g < w.heap.size ∧ w.cell? ⟨g, 0, none⟩ = some a ∧ w.cell? ⟨g, 1, none⟩ = some b ∧ 2 ≤ cap := by
  rcases h.2 with ⟨_, h0⟩ | ⟨g, cap, cur, rfl, hB, hg, h2, _, hs, ht⟩
  · omega
  · have hlt := (Array.getElem?_eq_some_iff.1 hg).1
    obtain ⟨l⟩ := cur
    have e0 : l[0]? = some a := by
      have := congrArg (fun l => l[0]?) ht
      simpa using this
    have e1 : l[1]? = some b := by
      have := congrArg (fun l => l[1]?) ht
      simpa using this
    exact ⟨g, cap, rfl, hB, hlt, by simp [World.cell?, hg, e0], by simp [World.cell?, hg, e1], h2⟩

/-- The two cells of a block that was new ahead of a call. -/
theorem fresh_two {W w : World} {x y : Value} {t : TypeId} (h : Below (W.alloc (.cells #[x, y] t)).heap.size (W.alloc (.cells #[x, y] t)) w) : w.cell? ⟨W.heap.size, 0, none⟩ = some x ∧ w.cell? ⟨W.heap.size, 1, none⟩ = some y :=
  ⟨by rw [h.cell (by simp)]; simp, by rw [h.cell (by simp)]; simp⟩

theorem below_re {w w' : World} {o : Obj} {B : Nat} (h : Below B w (w'.alloc o)) (hB : B ≤ w'.heap.size) (hw : w.heap.size ≤ w'.heap.size) (o' : Obj) : Below B w (w'.alloc o') :=
  ⟨h.os, h.tape, h.output, by simp; omega, fun k hk => by
    have h1 := h.block k hk
    rw [Below.heap_alloc _ _ _ (by omega)] at h1 ⊢
    exact h1⟩

/-- What is read where address and port are a and p: them, if they are an end; else nothing. -/
def rdV (a p : Int) : Value := if endB a p = true then .tuple #[.agg #[.int .i64 a, .int .i64 p], .bool true] else .tuple #[.agg #[.int .i64 0, .int .i64 0], .bool false]

set_option maxRecDepth 100000 in
set_option maxHeartbeats 800000 in
theorem specRead_len (s : ByteArray) (w : World) (hs : s.size ≤ 2097152) (h : (wordsL s.data.toList).length ≠ 2) :
    Calls Tryz.prog 121 #[.string s] w fun e w' => e = .returned (.tuple #[.agg #[.int .i64 0, .int .i64 0], .bool false]) ∧ Below w.heap.size w w' := by
  have hne : (((wordsL s.data.toList).length : Int) == 2) = false := by simp; omega
  have hne2 : (((wordsL s.data.toList).length : Int) != 2) = true := by simp; omega
  have H := Lib.hid h
  clear h
  go_enter Tryz.func121, Tryz.ntmps121
  go_wp2_with (go_at_call 133; refine (specWords_any _ _ hs).mono ?_; rintro e w1 ⟨v, rfl, own1, b1⟩; obtain ⟨a1, cap1, rfl⟩ := own_form own1; obtain ⟨c1, f1⟩ := bcell b1; obtain ⟨q0, q1, q2⟩ := set_two (w := w1) (b := w.heap.size) (.int .i64 0) (.int .i64 0) (by rw [c1 _ _ (by simp)]; simp; rfl) (by rw [c1 _ _ (by simp)]; simp; rfl))
  refine bodyPost_ret (v := .tuple #[.agg #[.int .i64 0, .int .i64 0], .bool false]) (by simp [results, Tryz.results121, go_sem, q1, q2]) rfl ⟨rfl, ?_⟩
  exact ((below_box b1).setCell (Nat.le_refl _) _).setCell (Nat.le_refl _) _

set_option maxRecDepth 100000 in
set_option maxHeartbeats 800000 in
theorem specRead_two (s : ByteArray) (x y : List UInt8) (w : World) (hs : s.size ≤ 2097152) (h : wordsL s.data.toList = [x, y]) :
    Calls Tryz.prog 121 #[.string s] w fun e w' => e = .returned (rdV (numL x) (numL y)) ∧ Below w.heap.size w w' := by
  have HW : ∀ w, Calls Tryz.prog 133 #[.string s] w fun e w' => ∃ v, e = .returned v ∧ w'.ownsRow w.heap.size 9 1 v 2 [strV x, strV y] ∧ Below w.heap.size w w' := by
    intro w; have := specWords_any s w hs; rw [h] at this; exact this
  have H := Lib.hid HW
  clear h HW
  go_enter Tryz.func121, Tryz.ntmps121
  go_upto_region 4 with (go_at_call 133; refine (H.out _).mono ?_; rintro e w1 ⟨v, rfl, own1, b1⟩; obtain ⟨g, cap, rfl, gB, gl, k0, k1, hcap⟩ := own_two own1; obtain ⟨c1, f1⟩ := bcell b1)
  clear own1 gB hcap
  have mk : Hid (∀ w', Below w1.heap.size w1 w' → w'.cell? ⟨g, 0, none⟩ = some (strV x) ∧ w'.cell? ⟨g, 1, none⟩ = some (strV y) ∧ Below w1.heap.size w1 w') :=
    fun w' h => ⟨(h.cell gl).trans k0, (h.cell gl).trans k1, h⟩
  clear k0 k1
  go_cut [5] (fun s5 wx => ∃ b : Nat, s5 = .pointer (some ⟨b, 0, none⟩) ∧ wx.cell? ⟨b, 0, none⟩ = some (.int .i64 (numL x)) ∧ wx.cell? ⟨b, 1, none⟩ = some (.int .i64 (numL y)) ∧ Below w1.heap.size w1 wx)
  case first =>
    go_region_held3 (fun w' => w'.cell? ⟨g, 0, none⟩ = some (strV x) ∧ w'.cell? ⟨g, 1, none⟩ = some (strV y) ∧ Below w1.heap.size w1 w')
      (first
        | exact mk.out _ (Below.refl _ _).drew
        | exact mk.out _ B2
        | exact mk.out _ ((‹_ ∧ _ ∧ Below w1.heap.size w1 w2›.2.2).alloc (‹_ ∧ _ ∧ Below w1.heap.size w1 w2›.2.2).size _)
        | exact mk.out _ (below_re (‹_ ∧ _ ∧ Below w1.heap.size w1 (w2.alloc _)›.2.2) B2.size B2.size _)
        | exact mk.out _ (((Below.refl _ _).drew).alloc (Nat.le_refl _) _)
        | exact mk.out _ ((B2.setCell (Nat.le_refl _) _).setCell (Nat.le_refl _) _)
        | exact mk.out _ ((B2.setCell (by have hq := (‹Below w1.drew.heap.size w1.drew _›).size; exact hq) _).setCell (by have hq := (‹Below w1.drew.heap.size w1.drew _›).size; exact hq) _)
        | (trace_state; fail))
      (first | (go_at_call 134; refine (specNum_any _ _).mono ?_; rintro e w2 ⟨rfl, b2⟩; obtain ⟨c2, f2⟩ := bcell b2; have B2 : Below w1.heap.size w1 w2 := (by first | exact ((Below.refl _ w1).drew).trans (b2.mono (Nat.le_refl _)) | exact (‹_ ∧ _ ∧ Below w1.heap.size w1 _›.2.2).trans (b2.mono (‹_ ∧ _ ∧ Below w1.heap.size w1 _›.2.2).size)); try (have z2 : w1.heap.size < w2.heap.size := (by have hq := b2.size; simp at hq; omega))))
    all_goals (go_wp2_with fail; go_meet)
    · exact ⟨w2.heap.size, rfl, by simp, by simp, B2.alloc B2.size _⟩
    · have z := (‹Below w1.drew.heap.size w1.drew _›).size
      obtain ⟨p0, p1⟩ := fresh_two b2
      obtain ⟨q0, q1, q2⟩ := set_two (.int .i64 (numL x)) (.int .i64 (numL y)) p0 p1
      exact ⟨_, rfl, q1, q2, (B2.setCell (by exact z) _).setCell (by exact z) _⟩
    · obtain ⟨p0, p1⟩ := fresh_two ((‹Below (w1.drew.alloc _).heap.size _ _›).trans (b2.mono (‹Below (w1.drew.alloc _).heap.size _ _›).size))
      obtain ⟨q0, q1, q2⟩ := set_two (.int .i64 (numL x)) (.int .i64 (numL y)) p0 p1
      exact ⟨_, rfl, q1, q2, (B2.setCell (Nat.le_refl _) _).setCell (Nat.le_refl _) _⟩
  case rest =>
    obtain ⟨b, rfl, h0, h1, hB⟩ := hcut
    have z1 : w.heap.size < w1.heap.size := by have hq := b1.size; simp at hq; omega
    have zc : w.heap.size < wc.heap.size := by have hq := hB.size; omega
    have zb : b < wc.heap.size := World.block_lt_of_cell? wc _ h0
    obtain ⟨cB, fB⟩ := bcell hB
    clear mk H
    by_cases hb : endB (numL x) (numL y) = true
    · have hv : Hid (rdV (numL x) (numL y) = .tuple #[.agg #[.int .i64 (numL x), .int .i64 (numL y)], .bool true]) := if_pos hb
      go_wp2_with (go_at_call 117; refine (specOk_any _ _ _).mono ?_; rintro e w3 ⟨rfl, b3⟩; obtain ⟨c3, f3⟩ := bcell b3)
      obtain ⟨q0, q1, q2⟩ := set_two (w := w3) (b := w.heap.size) (x := .int .i64 0) (y := .int .i64 0) (.int .i64 (numL x)) (.int .i64 (numL y)) (by rw [c3 _ _ zc, cB _ _ z1, c1 _ _ (by simp)]; simp) (by rw [c3 _ _ zc, cB _ _ z1, c1 _ _ (by simp)]; simp)
      refine bodyPost_ret (v := .tuple #[.agg #[.int .i64 (numL x), .int .i64 (numL y)], .bool true]) (by simp [results, Tryz.results121, go_sem, q1, q2]) rfl ⟨by rw [hv.out], ?_⟩
      exact ((((below_box b1).trans (hB.mono (by omega))).trans (b3.mono (by omega))).setCell (Nat.le_refl _) _).setCell (Nat.le_refl _) _
    · have hv : Hid (rdV (numL x) (numL y) = .tuple #[.agg #[.int .i64 0, .int .i64 0], .bool false]) := if_neg hb
      go_wp2_with (go_at_call 117; refine (specOk_any _ _ _).mono ?_; rintro e w3 ⟨rfl, b3⟩; obtain ⟨c3, f3⟩ := bcell b3)
      obtain ⟨q0, q1, q2⟩ := set_two (w := w3) (b := w.heap.size) (x := .int .i64 0) (y := .int .i64 0) (.int .i64 0) (.int .i64 0) (by rw [c3 _ _ zc, cB _ _ z1, c1 _ _ (by simp)]; simp) (by rw [c3 _ _ zc, cB _ _ z1, c1 _ _ (by simp)]; simp)
      refine bodyPost_ret (v := .tuple #[.agg #[.int .i64 0, .int .i64 0], .bool false]) (by simp [results, Tryz.results121, go_sem, q1, q2]) rfl ⟨by rw [hv.out], ?_⟩
      exact ((((below_box b1).trans (hB.mono (by omega))).trans (b3.mono (by omega))).setCell (Nat.le_refl _) _).setCell (Nat.le_refl _) _

end Go.Proofs.YtoidmmedpefjfaaGreatDoor

/- What EndRead of the specification reads, as an end or nothing. Condition: the text has at most 2^21 bytes. -/
namespace Go.Proofs.YtoidmmedpefjfaaGreatDoor
open Go.RowKit

def noneV : Value := .tuple #[.agg #[.int .i64 0, .int .i64 0], .bool false]

/-- What the specification reads of a text. -/
def rdS (l : List UInt8) : Value := match wordsL l with | [x, y] => rdV (numL x) (numL y) | _ => noneV
/-- .. as an end, if it is one. -/
def rdE (l : List UInt8) : Option (Int × Int) := match wordsL l with | [x, y] => if endB (numL x) (numL y) = true then some (numL x, numL y) else none | _ => none
theorem rdE_some {l : List UInt8} {a p : Int} (h : rdE l = some (a, p)) : rdS l = .tuple #[.agg #[.int .i64 a, .int .i64 p], .bool true] ∧ endB a p = true := by
  unfold rdE at h
  unfold rdS
  split at h
  · split at h
    · rename_i hb
      simp at h
      obtain ⟨rfl, rfl⟩ := h
      exact ⟨if_pos hb, hb⟩
    · cases h
  · cases h
theorem rdE_none {l : List UInt8} (h : rdE l = none) : rdS l = .tuple #[.agg #[.int .i64 0, .int .i64 0], .bool false] := by
  unfold rdE at h
  unfold rdS
  split at h
  · split at h
    · cases h
    · rename_i hb; exact if_neg hb
  · rfl
theorem rdV_none {a p : Int} (h : endB a p = false) : rdV a p = noneV := by unfold rdV; rw [h]; rfl

theorem rdS_yes {a p : Nat} (h : endB a p = true) : rdS (endL a p) = rdV a p := by
  obtain ⟨h1, h2, h3, h4⟩ := end_bounds h
  unfold rdS endL
  rw [words_of_two (dec_no_space a) (dec_no_space p)]
  simp only [numL_dec (show a ≤ 9999 by omega), numL_dec (show p ≤ 9999 by omega)]
theorem rdS_no {l : List UInt8} (h : ∀ a p : Nat, endB a p = true → l ≠ endL a p) : rdS l = noneV := by
  unfold rdS
  split
  · rename_i x y hw
    by_cases hb : endB (numL x) (numL y) = true
    · obtain ⟨h1, h2, h3, h4⟩ := end_bounds hb
      have ex := numL_inv (show 0 ≤ numL x by omega)
      have ey := numL_inv (show 0 ≤ numL y by omega)
      refine absurd ?_ (h (numL x).toNat (numL y).toNat (by rw [Int.toNat_of_nonneg (by omega), Int.toNat_of_nonneg (by omega)]; exact hb))
      rw [words_two hw, endL, ← ex, ← ey]
    · exact rdV_none (by simpa using hb)
  · rfl

theorem specRead_any (s : ByteArray) (w : World) (hs : s.size ≤ 2097152) :
    Calls Tryz.prog 121 #[.string s] w fun e w' => e = .returned (rdS s.data.toList) ∧ Below w.heap.size w w' := by
  by_cases h : (wordsL s.data.toList).length = 2
  · match hw : wordsL s.data.toList, h with
    | [x, y], _ =>
      have e : rdS s.data.toList = rdV (numL x) (numL y) := by unfold rdS; rw [hw]
      rw [e]; exact specRead_two s x y w hs hw
  · have e : rdS s.data.toList = noneV := by
      unfold rdS; split
      · rename_i x y hw; rw [hw] at h; simp at h
      · rfl
    rw [e]; exact specRead_len s w hs h

theorem rdS_form (l : List UInt8) : ∃ (a p : Int) (b : Bool), rdS l = .tuple #[.agg #[.int .i64 a, .int .i64 p], .bool b] := by
  unfold rdS
  split
  · unfold rdV; split
    · exact ⟨_, _, _, rfl⟩
    · exact ⟨_, _, _, rfl⟩
  · exact ⟨_, _, _, rfl⟩

end Go.Proofs.YtoidmmedpefjfaaGreatDoor

/- LinSays and LinBox of the specification. Condition: the text has at most 2^21 bytes. -/
namespace Go.Proofs.YtoidmmedpefjfaaGreatDoor
open Go.RowKit

/-- The end inside that a line names; the port of the box's. -/
def saysE (l : List UInt8) : Option (Int × Int) := if l.take 5 = portL then match rdE (l.drop 5) with | some (a, p) => if insB a p = true then some (a, p) else none | none => none else none
def boxE (l : List UInt8) : Option Int := if l.take 5 = portL then match rdE (l.drop 5) with | some (a, p) => if a = 50 then some p else none | none => none else none

theorem ext_drop (s : ByteArray) (i : Nat) : (s.extract i s.size).data.toList = s.data.toList.drop i := by
  rw [ext_list, List.take_of_length_le (by rw [len_list]; omega)]
theorem ext_take (s : ByteArray) (i : Nat) : (s.extract 0 i).data.toList = s.data.toList.take i := by
  rw [ext_list]; simp

/-- What LinSays and LinBox answer. -/
def saysV : Option (Int × Int) → Value
  | some (a, p) => .tuple #[.agg #[.int .i64 a, .int .i64 p], .bool true]
  | none => .tuple #[.agg #[.int .i64 0, .int .i64 0], .bool false]
def boxV : Option Int → Value
  | some p => .tuple #[.int .i64 p, .bool true]
  | none => .tuple #[.int .i64 0, .bool false]

set_option maxRecDepth 100000 in
set_option maxHeartbeats 800000 in
theorem specSays_any (s : ByteArray) (w : World) (hs : s.size ≤ 2097152) :
    Calls Tryz.prog 96 #[.string s] w fun e w' => e = .returned (saysV (saysE s.data.toList)) ∧ Below w.heap.size w w' := by
  have hshort : s.data.toList.take 5 = portL → 5 ≤ s.size := by
    intro h; have := congrArg List.length h; simp [portL] at this; omega
  by_cases h5 : s.size < 5
  · have HV : Hid (saysE s.data.toList = none) := by
      show saysE s.data.toList = none
      unfold saysE; rw [if_neg (fun h => by have := hshort h; omega)]
    clear hshort
    go_enter Tryz.func96, Tryz.ntmps96
    go_wp2_with fail
    refine bodyPost_ret (v := .tuple #[.agg #[.int .i64 0, .int .i64 0], .bool false]) (by simp [results, Tryz.results96, go_sem]) rfl ⟨by rw [HV.out]; rfl, ?_⟩
    exact (Below.refl _ _).alloc (Nat.le_refl _) _
  · by_cases ht : s.data.toList.take 5 = portL
    · have hq : (!(s.extract 0 5).toList == [112, 111, 114, 116, 32]) = false := by
        rw [Lib.toList_data, ext_take, ht]; rfl
      have HE : Hid (∀ w, Calls Tryz.prog 121 #[.string (s.extract 5 s.size)] w fun e w' => e = .returned (rdS (s.data.toList.drop 5)) ∧ Below w.heap.size w w') := by
        intro w; have := specRead_any (s.extract 5 s.size) w (by simp; omega); rw [ext_drop] at this; exact this
      rcases hr : rdE (s.data.toList.drop 5) with _ | ⟨a, p⟩
      · have HV : Hid (saysE s.data.toList = none) := by
          show saysE s.data.toList = none
          unfold saysE; rw [if_pos ht, hr]
        have HR := Lib.hid (rdE_none hr)
        clear hshort hr ht
        go_enter Tryz.func96, Tryz.ntmps96
        go_wp2_with (go_at_call 121; refine (HE.out _).mono ?_; rintro e w1 ⟨rfl, b1⟩; rw [HR.out]; obtain ⟨c1, f1⟩ := bcell b1; have z1 : w.heap.size < w1.heap.size := by (have hq := b1.size; simp at hq; omega))
        obtain ⟨q0, q1, q2⟩ := set_two (w := w1) (b := w.heap.size) (x := .int .i64 0) (y := .int .i64 0) (.int .i64 0) (.int .i64 0) (by rw [c1 _ _ (by simp)]; simp) (by rw [c1 _ _ (by simp)]; simp)
        refine bodyPost_ret (v := .tuple #[.agg #[.int .i64 0, .int .i64 0], .bool false]) (by simp [results, Tryz.results96, go_sem, cell_alloc_lt, z1, q1, q2]) rfl ⟨by rw [HV.out]; rfl, ?_⟩
        exact (((below_box b1).setCell (Nat.le_refl _) _).setCell (Nat.le_refl _) _).alloc (by simp; omega) _
      · obtain ⟨hR, hb⟩ := rdE_some hr
        have HR := Lib.hid hR
        by_cases hin : insB a p = true
        · have HV : Hid (saysE s.data.toList = some (a, p)) := by
            show saysE s.data.toList = some (a, p)
            unfold saysE; rw [if_pos ht, hr]; simp [hin]
          clear hshort hr ht hR hb
          go_enter Tryz.func96, Tryz.ntmps96
          go_wp2_with (first
            | (go_at_call 121; refine (HE.out _).mono ?_; rintro e w1 ⟨rfl, b1⟩; rw [HR.out]; obtain ⟨c1, f1⟩ := bcell b1; have z1 : w.heap.size < w1.heap.size := by (have hq := b1.size; simp at hq; omega))
            | (go_at_call 56; refine (specInside_any _ _ _).mono ?_; rintro e w3 ⟨rfl, b3⟩; obtain ⟨c3, f3⟩ := bcell b3; have z3 : w1.heap.size < w3.heap.size := by (have hq := b3.size; simp at hq; omega)))
          obtain ⟨q0, q1, q2⟩ := set_two (w := w3) (b := w.heap.size) (x := .int .i64 0) (y := .int .i64 0) (.int .i64 a) (.int .i64 p) (by rw [c3 _ _ (by simp; omega), cell_alloc_lt z1, c1 _ _ (by simp)]; simp) (by rw [c3 _ _ (by simp; omega), cell_alloc_lt z1, c1 _ _ (by simp)]; simp)
          refine bodyPost_ret (v := .tuple #[.agg #[.int .i64 a, .int .i64 p], .bool true]) (by simp [results, Tryz.results96, go_sem, q1, q2]) rfl ⟨by rw [HV.out]; rfl, ?_⟩
          exact ((((below_box b1).trans (((Below.refl _ w1).alloc (Nat.le_refl _) _ |>.trans (b3.mono (by simp))).mono (by omega))).setCell (Nat.le_refl _) _).setCell (Nat.le_refl _) _)
        · have HV : Hid (saysE s.data.toList = none) := by
            show saysE s.data.toList = none
            unfold saysE; rw [if_pos ht, hr]; simp [hin]
          clear hshort hr ht hR hb
          go_enter Tryz.func96, Tryz.ntmps96
          go_wp2_with (first
            | (go_at_call 121; refine (HE.out _).mono ?_; rintro e w1 ⟨rfl, b1⟩; rw [HR.out]; obtain ⟨c1, f1⟩ := bcell b1; have z1 : w.heap.size < w1.heap.size := by (have hq := b1.size; simp at hq; omega))
            | (go_at_call 56; refine (specInside_any _ _ _).mono ?_; rintro e w3 ⟨rfl, b3⟩; obtain ⟨c3, f3⟩ := bcell b3; have z3 : w1.heap.size < w3.heap.size := by (have hq := b3.size; simp at hq; omega)))
          obtain ⟨q0, q1, q2⟩ := set_two (w := w3) (b := w.heap.size) (x := .int .i64 0) (y := .int .i64 0) (.int .i64 0) (.int .i64 0) (by rw [c3 _ _ (by simp; omega), cell_alloc_lt z1, c1 _ _ (by simp)]; simp) (by rw [c3 _ _ (by simp; omega), cell_alloc_lt z1, c1 _ _ (by simp)]; simp)
          refine bodyPost_ret (v := .tuple #[.agg #[.int .i64 0, .int .i64 0], .bool false]) (by simp [results, Tryz.results96, go_sem, q1, q2]) rfl ⟨by rw [HV.out]; rfl, ?_⟩
          exact ((((below_box b1).trans (((Below.refl _ w1).alloc (Nat.le_refl _) _ |>.trans (b3.mono (by simp))).mono (by omega))).setCell (Nat.le_refl _) _).setCell (Nat.le_refl _) _)
    · have hq : (!(s.extract 0 5).toList == [112, 111, 114, 116, 32]) = true := by
        rw [Lib.toList_data, ext_take]; simpa [portL] using ht
      have HV : Hid (saysE s.data.toList = none) := by
        show saysE s.data.toList = none
        unfold saysE; rw [if_neg ht]
      clear hshort ht
      go_enter Tryz.func96, Tryz.ntmps96
      go_wp2_with fail
      refine bodyPost_ret (v := .tuple #[.agg #[.int .i64 0, .int .i64 0], .bool false]) (by simp [results, Tryz.results96, go_sem]) rfl ⟨by rw [HV.out]; rfl, ?_⟩
      exact (Below.refl _ _).alloc (Nat.le_refl _) _

set_option maxRecDepth 100000 in
set_option maxHeartbeats 800000 in
theorem specBox_any (s : ByteArray) (w : World) (hs : s.size ≤ 2097152) :
    Calls Tryz.prog 119 #[.string s] w fun e w' => e = .returned (boxV (boxE s.data.toList)) ∧ Below w.heap.size w w' := by
  have hshort : s.data.toList.take 5 = portL → 5 ≤ s.size := by
    intro h; have := congrArg List.length h; simp [portL] at this; omega
  by_cases h5 : s.size < 5
  · have HV : Hid (boxE s.data.toList = none) := by
      show boxE s.data.toList = none
      unfold boxE; rw [if_neg (fun h => by have := hshort h; omega)]
    clear hshort
    go_enter Tryz.func119, Tryz.ntmps119
    go_wp2_with fail
    go_ret2
    exact ⟨by rw [HV.out]; rfl, Below.refl _ _⟩
  · by_cases ht : s.data.toList.take 5 = portL
    · have hq : (!(s.extract 0 5).toList == [112, 111, 114, 116, 32]) = false := by
        rw [Lib.toList_data, ext_take, ht]; rfl
      have HE : Hid (∀ w, Calls Tryz.prog 121 #[.string (s.extract 5 s.size)] w fun e w' => e = .returned (rdS (s.data.toList.drop 5)) ∧ Below w.heap.size w w') := by
        intro w; have := specRead_any (s.extract 5 s.size) w (by simp; omega); rw [ext_drop] at this; exact this
      rcases hr : rdE (s.data.toList.drop 5) with _ | ⟨a, p⟩
      · have HV : Hid (boxE s.data.toList = none) := by
          show boxE s.data.toList = none
          unfold boxE; rw [if_pos ht, hr]
        have HR := Lib.hid (rdE_none hr)
        clear hshort hr ht
        go_enter Tryz.func119, Tryz.ntmps119
        go_wp2_with (go_at_call 121; refine (HE.out _).mono ?_; rintro e w1 ⟨rfl, b1⟩; rw [HR.out])
        go_ret2
        exact ⟨by rw [HV.out]; rfl, b1.alloc b1.size _⟩
      · obtain ⟨hR, hb⟩ := rdE_some hr
        have HR := Lib.hid hR
        by_cases hin : a = 50
        · have HV : Hid (boxE s.data.toList = some p) := by
            show boxE s.data.toList = some p
            unfold boxE; rw [if_pos ht, hr]; simp [hin]
          have hne : (a != 50) = false := by simp [hin]
          clear hshort hr ht hR hb hin
          go_enter Tryz.func119, Tryz.ntmps119
          go_wp2_with (go_at_call 121; refine (HE.out _).mono ?_; rintro e w1 ⟨rfl, b1⟩; rw [HR.out])
          go_ret2
          exact ⟨by rw [HV.out]; rfl, b1.alloc b1.size _⟩
        · have HV : Hid (boxE s.data.toList = none) := by
            show boxE s.data.toList = none
            unfold boxE; rw [if_pos ht, hr]; simp [hin]
          have hne : (a != 50) = true := by simp [hin]
          clear hshort hr ht hR hb hin
          go_enter Tryz.func119, Tryz.ntmps119
          go_wp2_with (go_at_call 121; refine (HE.out _).mono ?_; rintro e w1 ⟨rfl, b1⟩; rw [HR.out])
          go_ret2
          exact ⟨by rw [HV.out]; rfl, b1.alloc b1.size _⟩
    · have hq : (!(s.extract 0 5).toList == [112, 111, 114, 116, 32]) = true := by
        rw [Lib.toList_data, ext_take]; simpa [portL] using ht
      have HV : Hid (boxE s.data.toList = none) := by
        show boxE s.data.toList = none
        unfold boxE; rw [if_neg ht]
      clear hshort ht
      go_enter Tryz.func119, Tryz.ntmps119
      go_wp2_with fail
      go_ret2
      exact ⟨by rw [HV.out]; rfl, Below.refl _ _⟩

end Go.Proofs.YtoidmmedpefjfaaGreatDoor

/- LinOk of the specification, at every text. Condition: the text has at most 2^48 bytes. -/
namespace Go.Proofs.YtoidmmedpefjfaaGreatDoor
open Go.RowKit

set_option maxRecDepth 100000 in
set_option maxHeartbeats 800000 in
theorem specByte_any (c : UInt8) (w : World) :
    Calls Tryz.prog 58 #[.int .u8 (c.toNat : Int)] w fun e w' => e = .returned (.bool (byteB c)) ∧ w = w' := by
  by_cases h1 : 97 ≤ c.toNat <;> by_cases h2 : c.toNat ≤ 122 <;> by_cases h3 : 48 ≤ c.toNat <;> by_cases h4 : c.toNat ≤ 57 <;> by_cases h5 : c.toNat = 32 <;>
    first
    | (exfalso; omega)
    | (have h6 : ((c.toNat : Int) == 32) = decide (c.toNat = 32) := by (rw [Bool.eq_iff_iff]; simp; omega)
       simp only [h5, decide_true, decide_false] at h6
       go_enter Tryz.func58, Tryz.ntmps58
       go_wp2
       go_ret
       exact ⟨by (simp [byteB, h1, h2, h3, h4, h5] <;> omega), rfl⟩)

set_option maxRecDepth 100000 in
set_option maxHeartbeats 800000 in
theorem specLin_any (s : ByteArray) (w : World) (hs : s.size ≤ 281474976710656) :
    Calls Tryz.prog 18 #[.string s] w fun e w' => e = .returned (.bool (linB s.data.toList)) ∧ w = w' := by
  by_cases h16 : 16 < s.size
  · go_enter Tryz.func18, Tryz.ntmps18
    go_wp2_with fail
    go_ret
    exact ⟨ret_bool (by unfold linB; rw [len_list, decide_eq_false (by omega)]; rfl), rfl⟩
  · go_enter Tryz.func18, Tryz.ntmps18
    go_wp2_with fail
    go_loop [3] (fun i => ∃ k : Nat, k ≤ s.size ∧ i = .int .i64 k ∧ (∀ c ∈ s.data.toList.take k, byteB c = true)) (fun i => s.size - (intOf i).toNat)
    case atStart => exact ⟨0, Nat.zero_le _, rfl, by simp⟩
    case round =>
      obtain ⟨k, hk, rfl, hd⟩ := hrel
      have HD := Lib.hid hd
      clear hd
      by_cases hlt : k < s.size
      · have HT : Hid (s.data.toList.take (k + 1) = s.data.toList.take k ++ [s[k]]) := take_snoc s k hlt
        by_cases hb : byteB s[k] = true
        · have HB := Lib.hid hb
          go_wp2_with (go_at_call 58; refine (specByte_any _ _).mono ?_; rintro e w' ⟨rfl, rfl⟩)
          go_round
          case rel =>
            refine ⟨k + 1, by omega, by go_num, ?_⟩
            rw [HT.out]; intro c hc
            rcases List.mem_append.1 hc with hc | hc
            · exact HD.out c hc
            · simp at hc; subst hc; exact HB.out
          case measure => simp [intOf]; omega
        · have HB : Hid (linB s.data.toList = false) := by
            unfold linB
            have : s.data.toList.all byteB = false := by
              rw [List.all_eq_false]; exact ⟨s[k], mem_at s k hlt, hb⟩
            show (_ && _) = false
            rw [this]; simp
          go_wp2_with (go_at_call 58; refine (specByte_any _ _).mono ?_; rintro e w' ⟨rfl, rfl⟩)
          go_ret
          exact ⟨ret_bool HB.out.symm, rfl⟩
      · have HL : Hid (linB s.data.toList = true) := by
          have he : s.data.toList.take k = s.data.toList := List.take_of_length_le (by rw [len_list]; omega)
          show (_ && _) = true
          rw [len_list, decide_eq_true (by omega), ← he, List.all_eq_true.2 HD.out]; rfl
        go_wp2_with fail
        go_ret
        exact ⟨ret_bool HL.out.symm, rfl⟩

end Go.Proofs.YtoidmmedpefjfaaGreatDoor

/- BakLine of the specification: a line as it goes inside, by a table. Conditions: at most 2^22 ends; the text has at most 2^21 bytes. -/
namespace Go.Proofs.YtoidmmedpefjfaaGreatDoor
open Go.RowKit

/-- A line as it goes inside; nothing of what is no table or no line. -/
def backE (es : List (Int × Int)) (l : List UInt8) : List UInt8 := match boxE l with | none => l | some p => match endI es p with | none => l | some (a, q) => lpL a q
def bakE (es : List (Int × Int)) (l : List UInt8) : List UInt8 := if mapB es = true ∧ linB l = true then backE es l else []
theorem str_same (s : ByteArray) : (⟨s.data.toList.toArray⟩ : ByteArray) = s := Lib.mk_data s
theorem box1 {w w1 : World} {v : Value} {t : TypeId} (hb : Below (w.alloc (.cells #[v] t)).heap.size (w.alloc (.cells #[v] t)) w1) : w1.cell? ⟨w.heap.size, 0, none⟩ = some v := by
  rw [hb.cell (p := ⟨w.heap.size, 0, none⟩) (by simp), (cell_new w #[v] t 0).1]; rfl

set_option maxRecDepth 100000 in
set_option maxHeartbeats 1600000 in
theorem specBack_any (v : Value) (es : List (Int × Int)) (s : ByteArray) (w : World) (hn : es.length ≤ 4194304) (hs : s.size ≤ 2097152) (ht : TabAt w v es) :
    Calls Tryz.prog 86 #[.agg #[v], .string s] w fun e w' => e = .returned (.string ⟨(backE es s.data.toList).toArray⟩) ∧ Below w.heap.size w w' := by
  have HT := Lib.hid ht
  obtain ⟨ad, cap, rfl, hcap, hr⟩ := ht
  clear hr hcap
  rcases hb : boxE s.data.toList with _ | p
  · have HB : Hid (∀ w, Calls Tryz.prog 119 #[.string s] w fun e w' => e = .returned (.tuple #[.int .i64 0, .bool false]) ∧ Below w.heap.size w w') := fun w => by have := specBox_any s w hs; rw [hb] at this; exact this
    have HE : Hid (backE es s.data.toList = s.data.toList) := by show backE _ _ = _; unfold backE; rw [hb]
    clear hb
    go_enter Tryz.func86, Tryz.ntmps86
    go_wp2_with fail
    (go_at_call 119; refine (HB.out _).mono ?_; rintro e w1 ⟨rfl, b1⟩)
    go_wp2_with fail
    go_ret
    exact ⟨by rw [HE.out, str_same]; rfl, below_box b1⟩
  · have HB : Hid (∀ w, Calls Tryz.prog 119 #[.string s] w fun e w' => e = .returned (.tuple #[.int .i64 p, .bool true]) ∧ Below w.heap.size w w') := fun w => by have := specBox_any s w hs; rw [hb] at this; exact this
    rcases hi : endI es p with _ | ⟨a, q⟩
    · have HE : Hid (backE es s.data.toList = s.data.toList) := by show backE _ _ = _; unfold backE; rw [hb]; simp only [hi]
      have HM : Hid (∀ w, TabAt w (.slice ad es.length cap) es → Calls Tryz.prog 120 #[.agg #[.slice ad es.length cap], .int .i64 p] w fun e w' => e = .returned (.tuple #[.agg #[.int .i64 0, .int .i64 0], .bool false]) ∧ Below w.heap.size w w') := fun w h => by have := specMapEnd_any _ es p w hn h; rw [hi] at this; exact this
      clear hb hi
      go_enter Tryz.func86, Tryz.ntmps86
      go_wp2_with fail
      (go_at_call 119; refine (HB.out _).mono ?_; rintro e w1 ⟨rfl, b1⟩)
      have c1 := box1 b1
      have B1 := Lib.hid (below_box b1)
      clear b1
      go_wp2_with fail
      (go_at_call 120; refine (HM.out _ (HT.out.below B1.out)).mono ?_; rintro e w2 ⟨rfl, b2⟩)
      have B2 := Lib.hid (B1.out.trans (b2.mono B1.out.size))
      clear b2
      go_wp2_with fail
      go_ret
      exact ⟨by rw [HE.out, str_same]; rfl, B2.out.alloc B2.out.size _⟩
    · have HE : Hid (backE es s.data.toList = lpL a q) := by show backE _ _ = _; unfold backE; rw [hb]; simp only [hi]
      have HM : Hid (∀ w, TabAt w (.slice ad es.length cap) es → Calls Tryz.prog 120 #[.agg #[.slice ad es.length cap], .int .i64 p] w fun e w' => e = .returned (.tuple #[.agg #[.int .i64 a, .int .i64 q], .bool true]) ∧ Below w.heap.size w w') := fun w h => by have := specMapEnd_any _ es p w hn h; rw [hi] at this; exact this
      clear hb hi
      go_enter Tryz.func86, Tryz.ntmps86
      go_wp2_with fail
      (go_at_call 119; refine (HB.out _).mono ?_; rintro e w1 ⟨rfl, b1⟩)
      have c1 := box1 b1
      have B1 := Lib.hid (below_box b1)
      clear b1
      go_wp2_with fail
      (go_at_call 120; refine (HM.out _ (HT.out.below B1.out)).mono ?_; rintro e w2 ⟨rfl, b2⟩)
      have B2 := Lib.hid (B1.out.trans (b2.mono B1.out.size))
      have B3 := Lib.hid (B2.out.alloc B2.out.size (.cells #[.int .i64 a, .int .i64 q] 34))
      clear b2
      go_wp2_with fail
      (go_at_call 83; refine (specLinPort_any a q _).mono ?_; rintro e w3 ⟨rfl, b3⟩)
      go_wp2_with fail
      go_ret
      exact ⟨by rw [HE.out]; rfl, B3.out.trans (b3.mono B3.out.size)⟩

set_option maxRecDepth 100000 in
set_option maxHeartbeats 1600000 in
theorem specBakLine_any (v : Value) (es : List (Int × Int)) (s : ByteArray) (w : World) (hn : es.length ≤ 4194304) (hs : s.size ≤ 2097152) (ht : TabAt w v es) :
    Calls Tryz.prog 43 #[.agg #[v], .string s] w fun e w' => e = .returned (.string ⟨(bakE es s.data.toList).toArray⟩) ∧ Below w.heap.size w w' := by
  have HT := Lib.hid ht
  have HK : Hid (∀ w, TabAt w v es → Calls Tryz.prog 86 #[.agg #[v], .string s] w fun e w' => e = .returned (.string ⟨(backE es s.data.toList).toArray⟩) ∧ Below w.heap.size w w') := fun w h => specBack_any v es s w hn hs h
  have HM0 : Hid (∀ w, TabAt w v es → Calls Tryz.prog 17 #[.agg #[v]] w fun e w' => e = .returned (.bool (mapB es)) ∧ Below w.heap.size w w') := fun w h => specMapOk_any v es w hn h
  have HL0 : Hid (∀ w, Calls Tryz.prog 18 #[.string s] w fun e w' => e = .returned (.bool (linB s.data.toList)) ∧ w = w') := fun w => specLin_any s w (by omega)
  obtain ⟨ad, cap, rfl, hcap, hr⟩ := ht
  clear hr hcap
  obtain ⟨r, hr⟩ : ∃ r, r = bakE es s.data.toList := ⟨_, rfl⟩
  have hr2 : r = if mapB es = true ∧ linB s.data.toList = true then backE es s.data.toList else [] := hr
  rw [← hr]
  obtain ⟨bm, hbm⟩ : ∃ b, b = mapB es := ⟨_, rfl⟩
  obtain ⟨bl, hbl⟩ : ∃ b, b = linB s.data.toList := ⟨_, rfl⟩
  rw [← hbm] at HM0 hr2
  rw [← hbl] at HL0 hr2
  have HR := Lib.hid hr2
  clear hbm hbl hr hr2
  cases bm
  · go_enter Tryz.func43, Tryz.ntmps43
    go_wp2_with fail
    (go_at_call 17; refine (HM0.out _ (HT.out.below ((Below.refl _ _).alloc (Nat.le_refl _) _))).mono ?_; rintro e w1 ⟨rfl, b1⟩)
    go_wp2_with fail
    go_ret
    exact ⟨by rw [HR.out]; rfl, below_box b1⟩
  · cases bl
    · go_enter Tryz.func43, Tryz.ntmps43
      go_wp2_with fail
      (go_at_call 17; refine (HM0.out _ (HT.out.below ((Below.refl _ _).alloc (Nat.le_refl _) _))).mono ?_; rintro e w1 ⟨rfl, b1⟩)
      go_wp2_with fail
      (go_at_call 18; refine (HL0.out _).mono ?_; rintro e w2 ⟨rfl, rfl⟩)
      go_wp2_with fail
      go_ret
      exact ⟨by rw [HR.out]; rfl, below_box b1⟩
    · go_enter Tryz.func43, Tryz.ntmps43
      go_wp2_with fail
      (go_at_call 17; refine (HM0.out _ (HT.out.below ((Below.refl _ _).alloc (Nat.le_refl _) _))).mono ?_; rintro e w1 ⟨rfl, b1⟩)
      have c1 := box1 b1
      have B1 := Lib.hid (below_box b1)
      clear b1
      go_wp2_with fail
      (go_at_call 18; refine (HL0.out _).mono ?_; rintro e w2 ⟨rfl, rfl⟩)
      go_wp2_with fail
      (go_at_call 86; refine (HK.out _ (HT.out.below B1.out)).mono ?_; rintro e w3 ⟨rfl, b3⟩)
      go_wp2_with fail
      go_ret
      exact ⟨by rw [HR.out]; rfl, B1.out.trans (b3.mono B1.out.size)⟩

end Go.Proofs.YtoidmmedpefjfaaGreatDoor

/- l3Line of the specification: a line as it goes outside, and the table then. Conditions: at most 2^22 ends; the text has at most 2^21 bytes. -/
namespace Go.Proofs.YtoidmmedpefjfaaGreatDoor
open Go.RowKit Go.Sort

def noneL : List UInt8 := [110, 111, 110, 101]
/-- A line as it goes outside, and the table then. -/
def lineE (es : List (Int × Int)) (l : List UInt8) : List (Int × Int) × List UInt8 := match saysE l with | none => (es, l) | some e => if (putE es e).2 = 0 then ((putE es e).1, noneL) else ((putE es e).1, lpL 50 (putE es e).2)

theorem specPut_new_or (ad : Addr) (cap : Nat) (es : List (Int × Int)) (a p : Int) (w : World) (hn : es.length ≤ 4194304) (ht : TabAt w (.slice (some ad) es.length cap) es) :
    Calls Tryz.prog 97 #[.agg #[.slice (some ad) es.length cap], .agg #[.int .i64 a, .int .i64 p]] w fun e w' => ∃ g c, e = .returned (.tuple #[.agg #[.slice (some g) (putE es (a, p)).1.length c], .int .i64 (putE es (a, p)).2]) ∧ ((g = ad ∧ c = cap ∧ (putE es (a, p)).1 = es) ∨ OwnTab w' w.heap.size (.slice (some g) (putE es (a, p)).1.length c) (putE es (a, p)).1) ∧ Below w.heap.size w w' := by
  by_cases h : 0 < portI es (a, p)
  · rw [show putE es (a, p) = (es, portI es (a, p)) from if_pos h]
    refine (specPut_has ad cap es a p w hn ht h).mono ?_
    rintro e w' ⟨rfl, hb⟩
    exact ⟨_, _, rfl, .inl ⟨rfl, rfl, rfl⟩, hb⟩
  · have h0 := portI_zero h
    by_cases h6 : es.length = 6
    · rw [show putE es (a, p) = (es, 0) from by unfold putE; rw [if_neg h, if_pos h6]]
      refine (specPut_full ad cap es a p w hn ht h0 h6).mono ?_
      rintro e w' ⟨rfl, hb⟩
      exact ⟨_, _, rfl, .inl ⟨rfl, rfl, rfl⟩, hb⟩
    · rw [show putE es (a, p) = (es ++ [(a, p)], 500 + (es.length : Int)) from by unfold putE; rw [if_neg h, if_neg h6]]
      refine (specPut_new ad cap es a p w hn ht h0 h6).mono ?_
      rintro e w' ⟨g, c, rfl, h1, hb⟩
      exact ⟨g, c, by simp, .inr (by simpa using h1), hb⟩

set_option maxRecDepth 100000 in
set_option maxHeartbeats 1600000 in
theorem specLine_any (B : Nat) (ad : Addr) (cap : Nat) (es : List (Int × Int)) (s : ByteArray) (w : World) (hn : es.length ≤ 4194304) (hs : s.size ≤ 2097152) (hB : B ≤ w.heap.size) (ho : OwnTab w B (.slice (some ad) es.length cap) es) :
    Calls Tryz.prog 54 #[.agg #[.slice (some ad) es.length cap], .string s] w fun e w' => ∃ g c, e = .returned (.tuple #[.agg #[.slice (some g) (lineE es s.data.toList).1.length c], .string ⟨(lineE es s.data.toList).2.toArray⟩]) ∧ OwnTab w' B (.slice (some g) (lineE es s.data.toList).1.length c) (lineE es s.data.toList).1 ∧ Below w.heap.size w w' := by
  have HO := Lib.hid ho
  clear ho
  rcases hb : saysE s.data.toList with _ | ⟨a, p⟩
  · have HB : Hid (∀ w, Calls Tryz.prog 96 #[.string s] w fun e w' => e = .returned (.tuple #[.agg #[.int .i64 0, .int .i64 0], .bool false]) ∧ Below w.heap.size w w') := fun w => by have := specSays_any s w hs; rw [hb] at this; exact this
    have HE : Hid (lineE es s.data.toList = (es, s.data.toList)) := by show lineE _ _ = _; unfold lineE; rw [hb]
    clear hb
    rw [HE.out, str_same]
    go_enter Tryz.func54, Tryz.ntmps54
    go_wp2_with fail
    (go_at_call 96; refine (HB.out _).mono ?_; rintro e w1 ⟨rfl, b1⟩; obtain ⟨cA, cB, b01, z1⟩ := cell_two b1; have t0 := (cA 0).1; have r0 := (cB 0).1; have g0 := (cB 0).2; simp at t0 r0; have B1 := Lib.hid b01; clear cA cB b1 b01)
    have t1 : (w1.alloc (.cells #[.int .i64 0, .int .i64 0] 34)).cell? ⟨w.heap.size, 0, none⟩ = some (.slice (some ad) es.length cap) := (by rw [cell_alloc_lt (by omega)]; exact t0)
    have r1 : (w1.alloc (.cells #[.int .i64 0, .int .i64 0] 34)).cell? ⟨w.heap.size + 1, 0, none⟩ = some (.slice none 0 0) := (by rw [cell_alloc_lt (by omega)]; exact r0)
    have g1 : (w1.alloc (.cells #[.int .i64 0, .int .i64 0] 34)).frozen? ⟨w.heap.size + 1, 0, none⟩ = false := (by rw [frozen_alloc_lt (by omega)]; exact g0)
    go_wp2_with fail
    refine bodyPost_ret (v := .tuple #[.agg #[.slice (some ad) es.length cap], .string s]) (by simp [results, Tryz.results54, go_sem, World.cell?_setCell_same _ _ _ r1]) rfl ?_
    exact ⟨_, _, rfl, HO.out.below ((B1.out.alloc B1.out.size _).setCell (by simp) _), (B1.out.alloc B1.out.size _).setCell (by simp) _⟩
  · obtain ⟨us, hus⟩ : ∃ us, us = (putE es (a, p)).1 := ⟨_, rfl⟩
    obtain ⟨q, hq⟩ : ∃ q, q = (putE es (a, p)).2 := ⟨_, rfl⟩
    have hP : Hid (∀ (w : World), TabAt w (.slice (some ad) es.length cap) es → Calls Tryz.prog 97 #[.agg #[.slice (some ad) es.length cap], .agg #[.int .i64 a, .int .i64 p]] w fun e w' => ∃ g c, e = .returned (.tuple #[.agg #[.slice (some g) us.length c], .int .i64 q]) ∧ ((g = ad ∧ c = cap ∧ us = es) ∨ OwnTab w' w.heap.size (.slice (some g) us.length c) us) ∧ Below w.heap.size w w') := fun w h => by rw [hus, hq]; exact specPut_new_or ad cap es a p w hn h
    have HB : Hid (∀ w, Calls Tryz.prog 96 #[.string s] w fun e w' => e = .returned (.tuple #[.agg #[.int .i64 a, .int .i64 p], .bool true]) ∧ Below w.heap.size w w') := fun w => by have := specSays_any s w hs; rw [hb] at this; exact this
    by_cases h0 : q = 0
    · have HE : Hid (lineE es s.data.toList = (us, noneL)) := by show lineE _ _ = _; unfold lineE; rw [hb]; simp only; rw [← hq, if_pos h0, hus]
      clear hb hus hq
      subst h0
      rw [HE.out]
      go_enter Tryz.func54, Tryz.ntmps54
      go_wp2_with fail
      (go_at_call 96; refine (HB.out _).mono ?_; rintro e w1 ⟨rfl, b1⟩; obtain ⟨cA, cB, b01, z1⟩ := cell_two b1; have t0 := (cA 0).1; have r0 := (cB 0).1; have g0 := (cB 0).2; simp at t0 r0; have B1 := Lib.hid b01; clear cA cB b1 b01)
      have t1 : (w1.alloc (.cells #[.int .i64 a, .int .i64 p] 34)).cell? ⟨w.heap.size, 0, none⟩ = some (.slice (some ad) es.length cap) := (by rw [cell_alloc_lt (by omega)]; exact t0)
      have r1 : (w1.alloc (.cells #[.int .i64 a, .int .i64 p] 34)).cell? ⟨w.heap.size + 1, 0, none⟩ = some (.slice none 0 0) := (by rw [cell_alloc_lt (by omega)]; exact r0)
      have g1 : (w1.alloc (.cells #[.int .i64 a, .int .i64 p] 34)).frozen? ⟨w.heap.size + 1, 0, none⟩ = false := (by rw [frozen_alloc_lt (by omega)]; exact g0)
      go_wp2_with fail
      (go_at_call 97; refine (hP.out _ (HO.out.tab.below (B1.out.alloc B1.out.size _))).mono ?_; rintro e w2 ⟨g2, c2, rfl, o2, b2⟩; have O2 := Lib.hid o2; have B2 := Lib.hid b2; clear o2 b2)
      have r2 : w2.cell? ⟨w.heap.size + 1, 0, none⟩ = some (.slice none 0 0) := (by rw [B2.out.cell (by simp; omega)]; exact r1)
      have g02 : w2.frozen? ⟨w.heap.size + 1, 0, none⟩ = false := (by rw [B2.out.frozen (by simp; omega)]; exact g1)
      have z2 := B2.out.size
      have z2 : w1.heap.size + 1 ≤ w2.heap.size := by simpa using z2
      have r3 : (w2.alloc (.cells #[.slice (some g2) us.length c2] 25)).cell? ⟨w.heap.size + 1, 0, none⟩ = some (.slice none 0 0) := (by rw [cell_alloc_lt (by show _ < _; omega)]; exact r2)
      have g03 : (w2.alloc (.cells #[.slice (some g2) us.length c2] 25)).frozen? ⟨w.heap.size + 1, 0, none⟩ = false := (by rw [frozen_alloc_lt (by show _ < _; omega)]; exact g02)
      go_wp2_with fail
      refine bodyPost_ret (v := .tuple #[.agg #[.slice (some g2) us.length c2], .string ⟨noneL.toArray⟩]) (by simp [results, Tryz.results54, go_sem, World.cell?_setCell_same _ _ _ r3, noneL]) rfl ?_
      have BF : Below w.heap.size w ((w2.alloc (.cells #[.slice (some g2) us.length c2] 25)).setCell ⟨w.heap.size + 1, 0, none⟩ (.slice (some g2) us.length c2)) := (((B1.out.alloc B1.out.size _).trans (B2.out.mono (by simp; omega))).alloc (by omega) _).setCell (by simp) _
      refine ⟨_, _, rfl, ?_, BF⟩
      rcases O2.out with ⟨rfl, rfl, rfl⟩ | o2
      · exact HO.out.below BF
      · exact OwnTab.mono (B := w1.heap.size) (ownsRow_setCell_below (OwnTab.below (OwnTab.mono o2 (by simp)) ((Below.refl _ _).alloc (Nat.le_refl _) _)) (by simp; omega) _) (by omega)
    · have HE : Hid (lineE es s.data.toList = (us, lpL 50 q)) := by show lineE _ _ = _; unfold lineE; rw [hb]; simp only; rw [← hq, if_neg h0, hus]
      clear hb hus hq
      rw [HE.out]
      go_enter Tryz.func54, Tryz.ntmps54
      go_wp2_with fail
      (go_at_call 96; refine (HB.out _).mono ?_; rintro e w1 ⟨rfl, b1⟩; obtain ⟨cA, cB, b01, z1⟩ := cell_two b1; have t0 := (cA 0).1; have r0 := (cB 0).1; have g0 := (cB 0).2; simp at t0 r0; have B1 := Lib.hid b01; clear cA cB b1 b01)
      have t1 : (w1.alloc (.cells #[.int .i64 a, .int .i64 p] 34)).cell? ⟨w.heap.size, 0, none⟩ = some (.slice (some ad) es.length cap) := (by rw [cell_alloc_lt (by omega)]; exact t0)
      have r1 : (w1.alloc (.cells #[.int .i64 a, .int .i64 p] 34)).cell? ⟨w.heap.size + 1, 0, none⟩ = some (.slice none 0 0) := (by rw [cell_alloc_lt (by omega)]; exact r0)
      have g1 : (w1.alloc (.cells #[.int .i64 a, .int .i64 p] 34)).frozen? ⟨w.heap.size + 1, 0, none⟩ = false := (by rw [frozen_alloc_lt (by omega)]; exact g0)
      go_wp2_with fail
      (go_at_call 97; refine (hP.out _ (HO.out.tab.below (B1.out.alloc B1.out.size _))).mono ?_; rintro e w2 ⟨g2, c2, rfl, o2, b2⟩; have O2 := Lib.hid o2; have B2 := Lib.hid b2; clear o2 b2)
      have r2 : w2.cell? ⟨w.heap.size + 1, 0, none⟩ = some (.slice none 0 0) := (by rw [B2.out.cell (by simp; omega)]; exact r1)
      have g02 : w2.frozen? ⟨w.heap.size + 1, 0, none⟩ = false := (by rw [B2.out.frozen (by simp; omega)]; exact g1)
      have z2 := B2.out.size
      have z2 : w1.heap.size + 1 ≤ w2.heap.size := by simpa using z2
      have r3 : (w2.alloc (.cells #[.slice (some g2) us.length c2] 25)).cell? ⟨w.heap.size + 1, 0, none⟩ = some (.slice none 0 0) := (by rw [cell_alloc_lt (by show _ < _; omega)]; exact r2)
      have g03 : (w2.alloc (.cells #[.slice (some g2) us.length c2] 25)).frozen? ⟨w.heap.size + 1, 0, none⟩ = false := (by rw [frozen_alloc_lt (by show _ < _; omega)]; exact g02)
      go_wp2_with fail
      have BF : Hid (Below w.heap.size w (w2.alloc (.cells #[.slice (some g2) us.length c2] 25))) := (((B1.out.alloc B1.out.size _).trans (B2.out.mono (by simp; omega))).alloc (by omega) _)
      have x3 : (w2.alloc (.cells #[.slice (some g2) us.length c2] 25)).cell? ⟨w2.heap.size, 0, none⟩ = some (.slice (some g2) us.length c2) := (cell_new _ _ _ 0).1
      have z3 : w2.heap.size + 1 ≤ (w2.alloc (.cells #[.slice (some g2) us.length c2] 25)).heap.size := by simp
      have O3 : Hid ((g2 = ad ∧ c2 = cap ∧ us = es) ∨ OwnTab (w2.alloc (.cells #[.slice (some g2) us.length c2] 25)) (w1.heap.size + 1) (.slice (some g2) us.length c2) us) := O2.out.imp id (fun o2 => OwnTab.below (OwnTab.mono o2 (by simp)) ((Below.refl _ _).alloc (Nat.le_refl _) _))
      obtain ⟨w3, hw3⟩ : ∃ w3, w3 = w2.alloc (.cells #[.slice (some g2) us.length c2] 25) := ⟨_, rfl⟩
      obtain ⟨k2, hk2⟩ : ∃ k2, k2 = w2.heap.size := ⟨_, rfl⟩
      rw [← hw3] at BF x3 z3 O3 r3 g03
      rw [← hk2] at x3 z3 z2
      rw [← hw3, ← hk2]
      clear hw3 hk2 r2 g02 O2 B2 B1 r0 t0 g0 t1 r1 g1
      go_region_with (go_at_call 83; refine (specLinPort_any 50 q _).mono ?_; rintro e w4 ⟨rfl, b4⟩; have B4 : Hid (Below w3.heap.size w3 w4) := ((Below.refl _ _).drew).trans b4; have x4 : w4.cell? ⟨k2, 0, none⟩ = some (.slice (some g2) us.length c2) := (by rw [B4.out.cell (by simp; omega)]; exact x3); have r4 : w4.cell? ⟨w.heap.size + 1, 0, none⟩ = some (.slice none 0 0) := (by rw [B4.out.cell (by simp; omega)]; exact r3); have g04 : w4.frozen? ⟨w.heap.size + 1, 0, none⟩ = false := (by rw [B4.out.frozen (by simp; omega)]; exact g03))
      all_goals
        go_wp2_with fail
        refine bodyPost_ret (v := .tuple #[.agg #[.slice (some g2) us.length c2], .string ⟨(lpL 50 q).toArray⟩]) (by simp [results, Tryz.results54, go_sem, World.cell?_setCell_same _ _ _ r4]) rfl ?_
        have BG : Below w.heap.size w (w4.setCell ⟨w.heap.size + 1, 0, none⟩ (.slice (some g2) us.length c2)) := (BF.out.trans (B4.out.mono BF.out.size)).setCell (by simp) _
        refine ⟨_, _, rfl, ?_, BG⟩
        rcases O3.out with ⟨rfl, rfl, rfl⟩ | o3
        · exact HO.out.below BG
        · exact OwnTab.mono (B := w1.heap.size) (ownsRow_setCell_below (OwnTab.below (OwnTab.mono o3 (by simp)) B4.out) (by simp; omega) _) (by omega)

end Go.Proofs.YtoidmmedpefjfaaGreatDoor

/- A line as it goes outside, as data. No condition. -/
namespace Go.Proofs.YtoidmmedpefjfaaGreatDoor
open Go.RowKit

theorem says_ins {l : List UInt8} {a p : Int} (h : saysE l = some (a, p)) : insB a p = true := by
  unfold saysE at h
  split at h
  · split at h
    · split at h
      · rename_i hi
        simp at h
        obtain ⟨rfl, rfl⟩ := h
        exact hi
      · cases h
    · cases h
  · cases h
theorem lineE_none {es : List (Int × Int)} {l : List UInt8} (h : saysE l = none) : lineE es l = (es, l) := by unfold lineE; rw [h]
theorem lineE_some {es : List (Int × Int)} {l : List UInt8} {e : Int × Int} (h : saysE l = some e) : lineE es l = ((putE es e).1, if (putE es e).2 = 0 then noneL else lpL 50 (putE es e).2) := by
  unfold lineE
  rw [h]
  simp only
  split <;> rfl
theorem lineE_ok {es : List (Int × Int)} {l : List UInt8} (hm : mapB es = true) : mapB (lineE es l).1 = true := by
  rcases h : saysE l with _ | ⟨a, p⟩
  · rw [lineE_none h]; exact hm
  · rw [lineE_some h]; exact putE_ok hm (says_ins h)

end Go.Proofs.YtoidmmedpefjfaaGreatDoor
