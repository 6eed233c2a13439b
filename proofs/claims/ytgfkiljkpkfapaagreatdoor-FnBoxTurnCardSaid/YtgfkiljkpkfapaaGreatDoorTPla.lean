/- l3Put, MapEnd and MapPut of the specification. Condition: the table has at most 2^22 ends. (Several texts, joined: Number, Words, End, SRead, SText, Rds, Lines, SPort, SSays, SPut, SPutN, SPuts.) -/
import Derived.Test.YtgfkiljkpkfapaaGreatDoorPlain
import Derived.Test.YtgfkiljkpkfapaaGreatDoorInside
import Derived.Deep.RegionHeld3
import Derived.Deep.DeepCutAuto
import Derived.Lib.SmallJoins
import Derived.Lib.QuietBelow
import Derived.Test.YtgfkiljkpkfapaaGreatDoorNum
import Derived.Test.YtgfkiljkpkfapaaGreatDoorOwnEnds
import Derived.Test.YtgfkiljkpkfapaaGreatDoorSMap
import Derived.Laws.AppendOwnNone
import Derived.Deep.AppendLies
import Derived.Deep.RegionLaw
import Derived.Deep.RegionWith

/- Numbers of at most four digits: what l1Num of the specification reads. No condition. -/
namespace Go.Proofs.YtgfkiljkpkfapaaGreatDoor
open Go.RowKit

set_option maxRecDepth 100000 in
set_option maxHeartbeats 400000 in
theorem specNum_short (s : ByteArray) (w : World) (h : s.size = 0 ∨ 4 < s.size) :
    Calls Tryz.prog 173 #[.string s] w fun e w' => e = .returned (.int .i64 (-1)) ∧ w = w' := by
  rcases h with h | h
  · have h' : ((s.size : Int) == 0) = true := by simp [h]
    clear h
    go_enter Tryz.func173, Tryz.ntmps173
    go_wp2
    go_ret
    exact ⟨rfl, rfl⟩
  · have h' : ((s.size : Int) == 0) = false := by (have : s.size ≠ 0 := by omega); simpa using this
    have h4 : decide ((4 : Int) < (s.size : Int)) = true := by simp; omega
    go_enter Tryz.func173, Tryz.ntmps173
    go_wp2
    go_ret
    exact ⟨rfl, rfl⟩

set_option maxRecDepth 100000 in
set_option maxHeartbeats 400000 in
theorem specNum_some (s : ByteArray) (w : World) (h0 : 0 < s.size) (h4 : s.size ≤ 4) :
    Calls Tryz.prog 173 #[.string s] w fun e w' => e = .returned (.int .i64 (numL s.data.toList)) ∧ Below w.heap.size w w' := by
  have h' : ((s.size : Int) == 0) = false := by (have : s.size ≠ 0 := by omega); simpa using this
  have h5 : decide ((4 : Int) < (s.size : Int)) = false := by simp; omega
  go_enter Tryz.func173, Tryz.ntmps173
  go_wp2
  go_loop [3, 4] (fun n i => ∃ k : Nat, k ≤ s.size ∧ i = .int .i64 k ∧ n = .int .i64 (valL (s.data.toList.take k)) ∧ (∀ c ∈ s.data.toList.take k, isDig c)) (fun _ i => s.size - (intOf i).toNat)
  case atStart => exact ⟨0, Nat.zero_le _, rfl, rfl, by simp⟩
  case round =>
    obtain ⟨k, hk, rfl, rfl, hd⟩ := hrel
    have hv := valL_lt _ hd
    have hl : (s.data.toList.take k).length ≤ 4 := by simp; omega
    have hv2 : valL (s.data.toList.take k) < 10000 := Nat.lt_of_lt_of_le hv (Nat.pow_le_pow_right (by omega) hl)
    clear hv hl
    have HD := Lib.hid hd
    clear hd
    by_cases hlt : k < s.size
    · have hts := take_snoc s k hlt
      have hnum : ¬ isDig s[k] → numL s.data.toList = -1 := by
        intro hn
        unfold numL
        split
        · rfl
        · rw [if_neg]
          intro h; exact hn (h _ (mem_at s k hlt))
      have HT : Hid (s.data.toList.take (k + 1) = s.data.toList.take k ++ [s[k]]) := hts
      have HN : Hid (¬ isDig s[k] → numL s.data.toList = -1) := hnum
      clear hts hnum
      go_wp2
      · go_ret
        refine ⟨ret_int (HN.out ?_).symm, Below.refl _ _⟩
        unfold isDig; omega
      · go_round
        case rel =>
          have hdig : isDig s[k] := by unfold isDig; omega
          refine ⟨k + 1, by omega, by go_num, ?_, ?_⟩
          · rw [HT.out, valL_snoc]
            unfold isDig at hdig
            congr 1; omega
          · rw [HT.out]; intro c hc
            rcases List.mem_append.1 hc with hc | hc
            · exact HD.out c hc
            · simp at hc; subst hc; exact hdig
        case measure => simp [intOf]; omega
      · go_ret
        refine ⟨ret_int (HN.out ?_).symm, Below.refl _ _⟩
        unfold isDig; omega
    · have hk' : s.data.toList.take k = s.data.toList := List.take_of_length_le (by simp; omega)
      have HK := Lib.hid hk'
      clear hk'
      go_wp2_with (go_at_call 174; refine (specPlain_any _ _ (by omega)).mono ?_; rintro e w1 ⟨rfl, b1⟩)
      · have hne : (!Lib.decDigits (valL (s.data.toList.take k)) == s.toList) = true := by assumption
        go_ret
        rw [HK.out, Lib.toList_data] at hne
        refine ⟨ret_int ?_, by assumption⟩
        have hd := HD.out
        rw [HK.out] at hd
        unfold numL
        rw [if_neg (by rw [len_list]; omega), if_pos hd, if_neg (by simpa using hne)]
      · have hne : (!Lib.decDigits (valL (s.data.toList.take k)) == s.toList) = false := by assumption
        go_ret
        rw [HK.out, Lib.toList_data] at hne
        refine ⟨ret_int ?_, by assumption⟩
        have hd := HD.out
        rw [HK.out] at hd
        unfold numL
        rw [if_neg (by rw [len_list]; omega), if_pos hd, if_pos (by simpa using hne), HK.out]

theorem specNum_any (s : ByteArray) (w : World) :
    Calls Tryz.prog 173 #[.string s] w fun e w' => e = .returned (.int .i64 (numL s.data.toList)) ∧ Below w.heap.size w w' := by
  by_cases h : s.size = 0 ∨ 4 < s.size
  · refine (specNum_short s w h).mono ?_
    rintro e w' ⟨rfl, rfl⟩
    refine ⟨ret_int ?_, Below.refl _ _⟩
    unfold numL
    rw [if_pos (by simpa using h)]
  · exact specNum_some s w (by omega) (by omega)

end Go.Proofs.YtgfkiljkpkfapaaGreatDoor

/- l1Words of the specification: a text's words, one space between, in a list of the call's own. Condition: the text has at most 2^21 bytes. -/
namespace Go.Proofs.YtgfkiljkpkfapaaGreatDoor
open Go.RowKit

theorem wordsF_len (l : List UInt8) : (wordsF l).1.length ≤ l.length := by
  have := wordsL_len l
  unfold wordsL at this
  simp at this; omega

theorem wordsF_len2 (l : List UInt8) : (wordsF l).2.length ≤ l.length := by
  have := congrArg List.length (flatW_fold l ([], []))
  simp [flatW] at this
  unfold wordsF; omega
set_option maxRecDepth 100000 in
set_option maxHeartbeats 800000 in
theorem specWords_any (s : ByteArray) (w : World) (hs : s.size ≤ 2097152) :
    Calls Tryz.prog 172 #[.string s] w fun e w' => ∃ v, e = .returned v ∧ w'.ownsRow w.heap.size 9 1 v (wordsL s.data.toList).length ((wordsL s.data.toList).map strV) ∧ Below w.heap.size w w' := by
  obtain ⟨i0, hi, hz0, hz1, hz2⟩ := info_parts infoStr
  go_enter Tryz.func172, Tryz.ntmps172
  go_wp2
  go_loopw [3, 4, 5] (fun v x i wr => ∃ k : Nat, k ≤ s.size ∧ i = .int .i64 k ∧ x = .string ⟨(wordsF (s.data.toList.take k)).2.toArray⟩ ∧ wr.ownsRow w.heap.size 9 1 v (wordsF (s.data.toList.take k)).1.length ((wordsF (s.data.toList.take k)).1.map strV) ∧ Below w.heap.size w wr)
    (fun _ _ i _ => s.size - (intOf i).toNat)
  case atStart => exact ⟨0, Nat.zero_le _, rfl, rfl, World.ownsRow_made w #[] 0 (Nat.le_refl _) (Nat.zero_le _) rfl, (Below.refl _ _).alloc (Nat.le_refl _) _⟩
  case round =>
    obtain ⟨k, hk, rfl, rfl, hown, hb⟩ := hrel
    have hlen := wordsF_len (s.data.toList.take k)
    have hlen3 := wordsF_len2 (s.data.toList.take k)
    have hlen2 : (s.data.toList.take k).length ≤ s.size := by simp; omega
    have hbs := hb.size
    obtain ⟨W0, hW0⟩ : ∃ x, x = wordsF (s.data.toList.take k) := ⟨_, rfl⟩
    rw [← hW0] at hown hlen hlen3 ⊢
    have HW : Hid (W0 = wordsF (s.data.toList.take k)) := hW0
    clear hW0
    by_cases hlt : k < s.size
    · have hsn : Hid (wordsF (s.data.toList.take (k + 1)) = stp W0 s[k]) := by
        show wordsF (s.data.toList.take (k + 1)) = stp W0 s[k]
        rw [take_snoc s k hlt, wordsF_snoc, HW.out]
      by_cases h32 : s[k] = 32
      · have ht : (((s[k]).toNat : Int) == 32) = true := by rw [h32]; rfl
        have H32 : Hid (s[k] = 32) := h32
        clear h32
        go_wp2_with (at_builtin; refine wpList_append_own _ rfl (.tmp 17) (.tmp 19) 53 rfl w.heap.size 9 i0 (.string ⟨#[]⟩) 1 16 Tryz.underlying53 hi hz0 hz1 hz2 rfl (by decide) _ _ _ rfl (hown.alloc _) ⟨wr.heap.size, 0, none⟩ 1 1 [.string ⟨W0.2.toArray⟩] rfl rfl ?c1 ?c2 ?c3 ?c4 ?c5 ?_)
        case c1 =>
          intro j u hj
          match j, hj with
          | 0, hj => simp at hj; subst hj; simp [Addr.add]
        case c2 => intro u hu; simp at hu; subst hu; rfl
        case c3 => unfold maxLen; omega
        case c4 => omega
        case c5 => simp; omega
        · intro v' w1 hown' hgrow _
          go_wp2
          go_roundw
          case rel =>
            refine ⟨k + 1, by omega, by go_num, ?_, ?_, ?_⟩
            · rw [hsn.out, stp, if_pos H32.out]
            · rw [hsn.out, stp, if_pos H32.out]; simpa [strV] using hown'
            · exact (hb.alloc hbs _).grown hgrow (by simp; omega) (fun k hk => (hown.lt k hk).1)
          case measure => simp [intOf]; omega
      · have ht : (((s[k]).toNat : Int) == 32) = false := by
          have e32 : (32 : UInt8).toNat = 32 := rfl
          simp; intro e; exact h32 (UInt8.toNat_inj.1 (by omega))
        have H32 : Hid (¬ s[k] = 32) := h32
        clear h32
        go_wp2
        go_roundw
        case rel =>
          refine ⟨k + 1, by omega, by go_num, ?_, ?_, hb⟩
          · rw [hsn.out, stp, if_neg H32.out, ext_one s k hlt]
          · rw [hsn.out, stp, if_neg H32.out]; exact hown
        case measure => simp [intOf]; omega
    · have hke : s.data.toList.take k = s.data.toList := List.take_of_length_le (by simp; omega)
      have HK : Hid (s.data.toList.take k = s.data.toList) := hke
      clear hke
      go_wp2_with (at_builtin; refine wpList_append_own _ rfl (.tmp 28) (.tmp 30) 53 rfl w.heap.size 9 i0 (.string ⟨#[]⟩) 1 16 Tryz.underlying53 hi hz0 hz1 hz2 rfl (by decide) _ _ _ rfl (hown.alloc _) ⟨wr.heap.size, 0, none⟩ 1 1 [.string ⟨W0.2.toArray⟩] rfl rfl ?d1 ?d2 ?d3 ?d4 ?d5 ?_)
      case d1 =>
        intro j u hj
        match j, hj with
        | 0, hj => simp at hj; subst hj; simp [Addr.add]
      case d2 => intro u hu; simp at hu; subst hu; rfl
      case d3 => unfold maxLen; omega
      case d4 => omega
      case d5 => simp; omega
      · intro v' w1 hown' hgrow _
        go_wp2
        go_ret
        have he : wordsL s.data.toList = W0.1 ++ [W0.2] := by unfold wordsL; rw [HW.out, HK.out]
        refine ⟨_, rfl, ?_, ?_⟩
        · rw [he]; simpa [strV] using hown'
        · exact (hb.alloc hbs _).grown hgrow (by simp; omega) (fun k hk => (hown.lt k hk).1)

end Go.Proofs.YtgfkiljkpkfapaaGreatDoor

/- EndOutside and EndOk of the program and of the specification, at every end; the world below the call stays as it was. No condition. -/
namespace Go.Proofs.YtgfkiljkpkfapaaGreatDoor
open Go.RowKit

set_option maxRecDepth 100000 in
set_option maxHeartbeats 400000 in
theorem isBox_any (a p : Int) (w : World) :
    Calls Tryz.prog 33 #[.agg #[.int .i64 a, .int .i64 p]] w fun e w' => e = .returned (.bool (boxB a p)) ∧ Below w.heap.size w w' := by
  by_cases h1 : a = 50
  · subst h1
    go_enter Tryz.func33, Tryz.ntmps33
    go_wp2_with (go_at_call 79; refine (isPort_any _ _).mono ?_; rintro e w' ⟨rfl, rfl⟩)
    go_ret
    exact ⟨by simp [boxB], (Below.refl _ _).alloc (Nat.le_refl _) _⟩
  · have h2 : (a == 50) = false := by simpa using h1
    go_enter Tryz.func33, Tryz.ntmps33
    go_wp2_with (go_at_call 79; refine (isPort_any _ _).mono ?_; rintro e w' ⟨rfl, rfl⟩)
    go_ret
    exact ⟨by simp [boxB, h1], (Below.refl _ _).alloc (Nat.le_refl _) _⟩

set_option maxRecDepth 100000 in
set_option maxHeartbeats 400000 in
theorem specOutside_any (a p : Int) (w : World) :
    Calls Tryz.prog 85 #[.agg #[.int .i64 a, .int .i64 p]] w fun e w' => e = .returned (.bool (outB a p)) ∧ Below w.heap.size w w' := by
  by_cases h1 : inB a 100 109 = true <;>
  · go_enter Tryz.func85, Tryz.ntmps85
    go_wp2_with (go_at_call 49; refine (specIn_any _ _ _ _).mono ?_; rintro e w' ⟨rfl, rfl⟩)
    go_ret
    exact ⟨by simp [outB, h1], (Below.refl _ _).alloc (Nat.le_refl _) _⟩

set_option maxRecDepth 100000 in
set_option maxHeartbeats 400000 in
theorem implOutside_any (a p : Int) (w : World) :
    Calls Tryz.prog 119 #[.agg #[.int .i64 a, .int .i64 p]] w fun e w' => e = .returned (.bool (outB a p)) ∧ Below w.heap.size w w' := by
  by_cases h1 : inB a 100 109 = true <;>
  · go_enter Tryz.func119, Tryz.ntmps119
    go_wp2_with (first
      | (go_at_call 58; refine (within_any _ _ _ _).mono ?_; rintro e w' ⟨rfl, rfl⟩)
      | (go_at_call 79; refine (isPort_any _ _).mono ?_; rintro e w' ⟨rfl, rfl⟩))
    go_ret
    exact ⟨by simp [outB, h1], (Below.refl _ _).alloc (Nat.le_refl _) _⟩

set_option maxRecDepth 100000 in
set_option maxHeartbeats 1000000 in
theorem implOk_any (a p : Int) (w : World) :
    Calls Tryz.prog 76 #[.agg #[.int .i64 a, .int .i64 p]] w fun e w' => e = .returned (.bool (endB a p)) ∧ Below w.heap.size w w' := by
  by_cases h1 : insB a p = true <;> by_cases h2 : outB a p = true <;>
  · go_enter Tryz.func76, Tryz.ntmps76
    go_wp2_with (first
      | (go_at_call 32; refine (implInside_any _ _ _).mono ?_; rintro e w1 ⟨rfl, b1⟩; obtain ⟨c1, f1⟩ := bcell b1; have s1 : w.heap.size < w1.heap.size := by (have := b1.size; simp at this; omega))
      | (go_at_call 119; refine (implOutside_any _ _ _).mono ?_; rintro e w2 ⟨rfl, b2⟩; obtain ⟨c2, f2⟩ := bcell b2)
      | (go_at_call 33; refine (isBox_any _ _ _).mono ?_; rintro e w3 ⟨rfl, b3⟩))
    go_ret
    first
      | exact ⟨by simp [endB, h1, h2], (below_box ‹Below (w.alloc _).heap.size _ _›).trans ((‹Below w1.heap.size w1 _›).trans ((‹Below w2.heap.size w2 _›).mono (by have := (‹Below w1.heap.size w1 w2›).size; omega)) |>.mono (by omega))⟩
      | exact ⟨by simp [endB, h1, h2], (below_box ‹Below (w.alloc _).heap.size _ _›).trans ((‹Below w1.heap.size w1 _›).mono (by omega))⟩
      | exact ⟨by simp [endB, h1, h2], below_box ‹_›⟩

set_option maxRecDepth 100000 in
set_option maxHeartbeats 1000000 in
theorem specOk_any (a p : Int) (w : World) :
    Calls Tryz.prog 48 #[.agg #[.int .i64 a, .int .i64 p]] w fun e w' => e = .returned (.bool (endB a p)) ∧ Below w.heap.size w w' := by
  by_cases h3 : a = 50
  · subst h3
    have h1 : ¬ insB 50 p = true := by simp [insB, inB]
    have h2 : ¬ outB 50 p = true := by simp [outB, inB]
    go_enter Tryz.func48, Tryz.ntmps48
    go_wp2_with (first
      | (go_at_call 14; refine (specInside_any _ _ _).mono ?_; rintro e w1 ⟨rfl, b1⟩; obtain ⟨c1, f1⟩ := bcell b1; have s1 : w.heap.size < w1.heap.size := by (have := b1.size; simp at this; omega))
      | (go_at_call 85; refine (specOutside_any _ _ _).mono ?_; rintro e w2 ⟨rfl, b2⟩; obtain ⟨c2, f2⟩ := bcell b2)
      | (go_at_call 49; refine (specIn_any _ _ _ _).mono ?_; rintro e w3 ⟨rfl, rfl⟩))
    go_ret
    exact ⟨by simp [endB, boxB, h1, h2], (below_box ‹Below (w.alloc _).heap.size _ _›).trans ((‹Below w1.heap.size w1 _›).mono (by omega))⟩
  · have h4 : (a == 50) = false := by simpa using h3
    by_cases h1 : insB a p = true <;> by_cases h2 : outB a p = true <;>
    · go_enter Tryz.func48, Tryz.ntmps48
      go_wp2_with (first
        | (go_at_call 14; refine (specInside_any _ _ _).mono ?_; rintro e w1 ⟨rfl, b1⟩; obtain ⟨c1, f1⟩ := bcell b1; have s1 : w.heap.size < w1.heap.size := by (have := b1.size; simp at this; omega))
        | (go_at_call 85; refine (specOutside_any _ _ _).mono ?_; rintro e w2 ⟨rfl, b2⟩; obtain ⟨c2, f2⟩ := bcell b2)
        | (go_at_call 49; refine (specIn_any _ _ _ _).mono ?_; rintro e w3 ⟨rfl, rfl⟩))
      go_ret
      first
        | exact ⟨by simp [endB, boxB, h1, h2, h3], (below_box ‹Below (w.alloc _).heap.size _ _›).trans ((‹Below w1.heap.size w1 _›).mono (by omega))⟩
        | exact ⟨by simp [endB, boxB, h1, h2, h3], below_box ‹_›⟩

end Go.Proofs.YtgfkiljkpkfapaaGreatDoor

/- EndRead of the specification, by the words of a text. Condition: the text has at most 2^21 bytes. -/
namespace Go.Proofs.YtgfkiljkpkfapaaGreatDoor
open Go.RowKit

/-- The first two cells of a list of the call's own. -/
theorem own_two {w : World} {B : Nat} {e : TypeId} {v a b : Value} (h : w.ownsRow B e 1 v 2 [a, b]) : ∃ g cap, v = .slice (some ⟨g, 0, none⟩) 2 cap ∧ B ≤ g ∧ g < w.heap.size ∧ w.cell? ⟨g, 0, none⟩ = some a ∧ w.cell? ⟨g, 1, none⟩ = some b ∧ 2 ≤ cap := by
  rcases h.2 with ⟨_, h0⟩ | ⟨g, cap, cur, rfl, hB, hg, h2, _, hs, ht⟩
  · omega
  · have hlt := (Array.getElem?_eq_some_iff.1 hg).1
    obtain ⟨l⟩ := cur
    have e0 : l[0]? = some a := by
      have := congrArg (fun l => l[0]?) ht
      simpa using this
    have e1 : l[1]? = some b := by
      have := congrArg (fun l => l[1]?) ht
      simpa using this
    exact ⟨g, cap, rfl, hB, hlt, by simp [World.cell?, hg, e0], by simp [World.cell?, hg, e1], h2⟩

/-- The two cells of a block that was new ahead of a call. -/
theorem fresh_two {W w : World} {x y : Value} {t : TypeId} (h : Below (W.alloc (.cells #[x, y] t)).heap.size (W.alloc (.cells #[x, y] t)) w) : w.cell? ⟨W.heap.size, 0, none⟩ = some x ∧ w.cell? ⟨W.heap.size, 1, none⟩ = some y :=
  ⟨by rw [h.cell (by simp)]; simp, by rw [h.cell (by simp)]; simp⟩

theorem below_re {w w' : World} {o : Obj} {B : Nat} (h : Below B w (w'.alloc o)) (hB : B ≤ w'.heap.size) (hw : w.heap.size ≤ w'.heap.size) (o' : Obj) : Below B w (w'.alloc o') :=
  ⟨h.os, h.tape, h.output, by simp; omega, fun k hk => by
    have h1 := h.block k hk
    rw [Below.heap_alloc _ _ _ (by omega)] at h1 ⊢
    exact h1⟩

/-- What is read where address and port are a and p: them, if they are an end; else nothing. -/
def rdV (a p : Int) : Value := if endB a p = true then .tuple #[.agg #[.int .i64 a, .int .i64 p], .bool true] else .tuple #[.agg #[.int .i64 0, .int .i64 0], .bool false]

set_option maxRecDepth 100000 in
set_option maxHeartbeats 800000 in
theorem specRead_len (s : ByteArray) (w : World) (hs : s.size ≤ 2097152) (h : (wordsL s.data.toList).length ≠ 2) :
    Calls Tryz.prog 160 #[.string s] w fun e w' => e = .returned (.tuple #[.agg #[.int .i64 0, .int .i64 0], .bool false]) ∧ Below w.heap.size w w' := by
  have hne : (((wordsL s.data.toList).length : Int) == 2) = false := by simp; omega
  have hne2 : (((wordsL s.data.toList).length : Int) != 2) = true := by simp; omega
  have H := Lib.hid h
  clear h
  go_enter Tryz.func160, Tryz.ntmps160
  go_wp2_with (go_at_call 172; refine (specWords_any _ _ hs).mono ?_; rintro e w1 ⟨v, rfl, own1, b1⟩; obtain ⟨a1, cap1, rfl⟩ := own_form own1; obtain ⟨c1, f1⟩ := bcell b1; obtain ⟨q0, q1, q2⟩ := set_two (w := w1) (b := w.heap.size) (.int .i64 0) (.int .i64 0) (by rw [c1 _ _ (by simp)]; simp; rfl) (by rw [c1 _ _ (by simp)]; simp; rfl))
  refine bodyPost_ret (v := .tuple #[.agg #[.int .i64 0, .int .i64 0], .bool false]) (by simp [results, Tryz.results160, go_sem, q1, q2]) rfl ⟨rfl, ?_⟩
  exact ((below_box b1).setCell (Nat.le_refl _) _).setCell (Nat.le_refl _) _

set_option maxRecDepth 100000 in
set_option maxHeartbeats 800000 in
theorem specRead_two (s : ByteArray) (x y : List UInt8) (w : World) (hs : s.size ≤ 2097152) (h : wordsL s.data.toList = [x, y]) :
    Calls Tryz.prog 160 #[.string s] w fun e w' => e = .returned (rdV (numL x) (numL y)) ∧ Below w.heap.size w w' := by
  have HW : ∀ w, Calls Tryz.prog 172 #[.string s] w fun e w' => ∃ v, e = .returned v ∧ w'.ownsRow w.heap.size 9 1 v 2 [strV x, strV y] ∧ Below w.heap.size w w' := by
    intro w; have := specWords_any s w hs; rw [h] at this; exact this
  have H := Lib.hid HW
  clear h HW
  go_enter Tryz.func160, Tryz.ntmps160
  go_upto_region 4 with (go_at_call 172; refine (H.out _).mono ?_; rintro e w1 ⟨v, rfl, own1, b1⟩; obtain ⟨g, cap, rfl, gB, gl, k0, k1, hcap⟩ := own_two own1; obtain ⟨c1, f1⟩ := bcell b1)
  clear own1 gB hcap
  have mk : Hid (∀ w', Below w1.heap.size w1 w' → w'.cell? ⟨g, 0, none⟩ = some (strV x) ∧ w'.cell? ⟨g, 1, none⟩ = some (strV y) ∧ Below w1.heap.size w1 w') :=
    fun w' h => ⟨(h.cell gl).trans k0, (h.cell gl).trans k1, h⟩
  clear k0 k1
  go_cut [5] (fun s5 wx => ∃ b : Nat, s5 = .pointer (some ⟨b, 0, none⟩) ∧ wx.cell? ⟨b, 0, none⟩ = some (.int .i64 (numL x)) ∧ wx.cell? ⟨b, 1, none⟩ = some (.int .i64 (numL y)) ∧ Below w1.heap.size w1 wx)
  case first =>
    go_region_held3 (fun w' => w'.cell? ⟨g, 0, none⟩ = some (strV x) ∧ w'.cell? ⟨g, 1, none⟩ = some (strV y) ∧ Below w1.heap.size w1 w')
      (first
        | exact mk.out _ (Below.refl _ _).drew
        | exact mk.out _ B2
        | exact mk.out _ ((‹_ ∧ _ ∧ Below w1.heap.size w1 w2›.2.2).alloc (‹_ ∧ _ ∧ Below w1.heap.size w1 w2›.2.2).size _)
        | exact mk.out _ (below_re (‹_ ∧ _ ∧ Below w1.heap.size w1 (w2.alloc _)›.2.2) B2.size B2.size _)
        | exact mk.out _ (((Below.refl _ _).drew).alloc (Nat.le_refl _) _)
        | exact mk.out _ ((B2.setCell (Nat.le_refl _) _).setCell (Nat.le_refl _) _)
        | exact mk.out _ ((B2.setCell (by have hq := (‹Below w1.drew.heap.size w1.drew _›).size; exact hq) _).setCell (by have hq := (‹Below w1.drew.heap.size w1.drew _›).size; exact hq) _)
        | (trace_state; fail))
      (first | (go_at_call 173; refine (specNum_any _ _).mono ?_; rintro e w2 ⟨rfl, b2⟩; obtain ⟨c2, f2⟩ := bcell b2; have B2 : Below w1.heap.size w1 w2 := (by first | exact ((Below.refl _ w1).drew).trans (b2.mono (Nat.le_refl _)) | exact (‹_ ∧ _ ∧ Below w1.heap.size w1 _›.2.2).trans (b2.mono (‹_ ∧ _ ∧ Below w1.heap.size w1 _›.2.2).size)); try (have z2 : w1.heap.size < w2.heap.size := (by have hq := b2.size; simp at hq; omega))))
    all_goals (go_wp2_with fail; go_meet)
    · exact ⟨w2.heap.size, rfl, by simp, by simp, B2.alloc B2.size _⟩
    · have z := (‹Below w1.drew.heap.size w1.drew _›).size
      obtain ⟨p0, p1⟩ := fresh_two b2
      obtain ⟨q0, q1, q2⟩ := set_two (.int .i64 (numL x)) (.int .i64 (numL y)) p0 p1
      exact ⟨_, rfl, q1, q2, (B2.setCell (by exact z) _).setCell (by exact z) _⟩
    · obtain ⟨p0, p1⟩ := fresh_two ((‹Below (w1.drew.alloc _).heap.size _ _›).trans (b2.mono (‹Below (w1.drew.alloc _).heap.size _ _›).size))
      obtain ⟨q0, q1, q2⟩ := set_two (.int .i64 (numL x)) (.int .i64 (numL y)) p0 p1
      exact ⟨_, rfl, q1, q2, (B2.setCell (Nat.le_refl _) _).setCell (Nat.le_refl _) _⟩
  case rest =>
    obtain ⟨b, rfl, h0, h1, hB⟩ := hcut
    have z1 : w.heap.size < w1.heap.size := by have hq := b1.size; simp at hq; omega
    have zc : w.heap.size < wc.heap.size := by have hq := hB.size; omega
    have zb : b < wc.heap.size := World.block_lt_of_cell? wc _ h0
    obtain ⟨cB, fB⟩ := bcell hB
    clear mk H
    by_cases hb : endB (numL x) (numL y) = true
    · have hv : Hid (rdV (numL x) (numL y) = .tuple #[.agg #[.int .i64 (numL x), .int .i64 (numL y)], .bool true]) := if_pos hb
      go_wp2_with (go_at_call 48; refine (specOk_any _ _ _).mono ?_; rintro e w3 ⟨rfl, b3⟩; obtain ⟨c3, f3⟩ := bcell b3)
      obtain ⟨q0, q1, q2⟩ := set_two (w := w3) (b := w.heap.size) (x := .int .i64 0) (y := .int .i64 0) (.int .i64 (numL x)) (.int .i64 (numL y)) (by rw [c3 _ _ zc, cB _ _ z1, c1 _ _ (by simp)]; simp) (by rw [c3 _ _ zc, cB _ _ z1, c1 _ _ (by simp)]; simp)
      refine bodyPost_ret (v := .tuple #[.agg #[.int .i64 (numL x), .int .i64 (numL y)], .bool true]) (by simp [results, Tryz.results160, go_sem, q1, q2]) rfl ⟨by rw [hv.out], ?_⟩
      exact ((((below_box b1).trans (hB.mono (by omega))).trans (b3.mono (by omega))).setCell (Nat.le_refl _) _).setCell (Nat.le_refl _) _
    · have hv : Hid (rdV (numL x) (numL y) = .tuple #[.agg #[.int .i64 0, .int .i64 0], .bool false]) := if_neg hb
      go_wp2_with (go_at_call 48; refine (specOk_any _ _ _).mono ?_; rintro e w3 ⟨rfl, b3⟩; obtain ⟨c3, f3⟩ := bcell b3)
      obtain ⟨q0, q1, q2⟩ := set_two (w := w3) (b := w.heap.size) (x := .int .i64 0) (y := .int .i64 0) (.int .i64 0) (.int .i64 0) (by rw [c3 _ _ zc, cB _ _ z1, c1 _ _ (by simp)]; simp) (by rw [c3 _ _ zc, cB _ _ z1, c1 _ _ (by simp)]; simp)
      refine bodyPost_ret (v := .tuple #[.agg #[.int .i64 0, .int .i64 0], .bool false]) (by simp [results, Tryz.results160, go_sem, q1, q2]) rfl ⟨by rw [hv.out], ?_⟩
      exact ((((below_box b1).trans (hB.mono (by omega))).trans (b3.mono (by omega))).setCell (Nat.le_refl _) _).setCell (Nat.le_refl _) _

end Go.Proofs.YtgfkiljkpkfapaaGreatDoor

/- EndText of the specification: address and port in decimals, a space between; nothing of what is no end. No condition. -/
namespace Go.Proofs.YtgfkiljkpkfapaaGreatDoor
open Go.RowKit Go.Sort

/-- The text of an end, as bytes. -/
def endL (a p : Nat) : List UInt8 := Lib.decDigits a ++ 32 :: Lib.decDigits p
theorem text_cat (x y : List UInt8) : (⟨x.toArray⟩ : ByteArray) ++ ⟨#[32]⟩ ++ ⟨y.toArray⟩ = ⟨(x ++ 32 :: y).toArray⟩ := by
  apply ByteArray.ext; simp
theorem end_bounds {a p : Int} (h : endB a p = true) : 1 ≤ a ∧ a ≤ 109 ∧ 1 ≤ p ∧ p ≤ 999 := by
  simp [endB, insB, outB, boxB, inB] at h; omega

set_option maxRecDepth 100000 in
set_option maxHeartbeats 400000 in
theorem specText_yes (a p : Nat) (w : World) (h : endB a p = true) :
    Calls Tryz.prog 161 #[.agg #[.int .i64 a, .int .i64 p]] w fun e w' => e = .returned (.string ⟨(endL a p).toArray⟩) ∧ Below w.heap.size w w' := by
  obtain ⟨h1, h2, h3, h4⟩ := end_bounds h
  have la := dec_len a
  have lp := dec_len p
  have n1 : ¬ 9223372036854775807 < (Lib.decDigits a).length + 1 := by omega
  have n2 : ¬ 9223372036854775807 < (Lib.decDigits a).length + 1 + (Lib.decDigits p).length := by omega
  clear la lp
  go_enter Tryz.func161, Tryz.ntmps161
  go_wp2_with (go_at_call 48; refine (specOk_any _ _ _).mono ?_; rintro e w1 ⟨rfl, b1⟩)
  have s1 : w.heap.size < w1.heap.size := by (have := b1.size; simp at this; omega)
  have k0 := cell_regrown (show w1.cell? ⟨w.heap.size, 0, none⟩ = some (.int .i64 a) by rw [b1.cell (by simp)]; simp)
  have k1 := cell_regrown (show w1.cell? ⟨w.heap.size, 1, none⟩ = some (.int .i64 p) by rw [b1.cell (by simp)]; simp)
  have cN : ∀ (k : Nat) (hk : k ≤ 1000) d os, Calls Tryz.prog 174 #[.int .i64 (k : Int)] (grow (redrawn w1 d) os) fun e w'' => e = .returned (.string ⟨(Lib.decDigits k).toArray⟩) ∧ ∃ p : Regrown, w'' = grow (redrawn w1 p.d) p.os := fun k hk d os => Calls.regrown_of (specPlain_any k _ (by omega))
  refine wp_region_quiet_below (by kernel_rfl) (by kernel_rfl) ?_
  repeat (quiet_step (exact cN _ (by omega) _ _))
  refine wpQuiet_nil ?_
  intro _ hw'
  obtain ⟨⟨dq, osq⟩, hw''⟩ := hw'
  subst hw''
  go_wp2
  go_ret
  exact ⟨by rw [text_cat]; rfl, (below_box b1).trans ((below_regrown w1 dq osq).mono (by omega))⟩

/-- The text of an end, or of what is none. -/
def etL (a p : Int) : List UInt8 := if endB a p = true then endL a.toNat p.toNat else []
end Go.Proofs.YtgfkiljkpkfapaaGreatDoor

/- What EndRead of the specification reads, as an end or nothing. Condition: the text has at most 2^21 bytes. -/
namespace Go.Proofs.YtgfkiljkpkfapaaGreatDoor
open Go.RowKit

def noneV : Value := .tuple #[.agg #[.int .i64 0, .int .i64 0], .bool false]

/-- What the specification reads of a text. -/
def rdS (l : List UInt8) : Value := match wordsL l with | [x, y] => rdV (numL x) (numL y) | _ => noneV
/-- .. as an end, if it is one. -/
def rdE (l : List UInt8) : Option (Int × Int) := match wordsL l with | [x, y] => if endB (numL x) (numL y) = true then some (numL x, numL y) else none | _ => none
theorem rdE_some {l : List UInt8} {a p : Int} (h : rdE l = some (a, p)) : rdS l = .tuple #[.agg #[.int .i64 a, .int .i64 p], .bool true] ∧ endB a p = true := by
  unfold rdE at h
  unfold rdS
  split at h
  · split at h
    · rename_i hb
      simp at h
      obtain ⟨rfl, rfl⟩ := h
      exact ⟨if_pos hb, hb⟩
    · cases h
  · cases h
theorem rdE_none {l : List UInt8} (h : rdE l = none) : rdS l = .tuple #[.agg #[.int .i64 0, .int .i64 0], .bool false] := by
  unfold rdE at h
  unfold rdS
  split at h
  · split at h
    · cases h
    · rename_i hb; exact if_neg hb
  · rfl
theorem rdV_none {a p : Int} (h : endB a p = false) : rdV a p = noneV := by unfold rdV; rw [h]; rfl

theorem rdS_yes {a p : Nat} (h : endB a p = true) : rdS (endL a p) = rdV a p := by
  obtain ⟨h1, h2, h3, h4⟩ := end_bounds h
  unfold rdS endL
  rw [words_of_two (dec_no_space a) (dec_no_space p)]
  simp only [numL_dec (show a ≤ 9999 by omega), numL_dec (show p ≤ 9999 by omega)]
theorem rdS_no {l : List UInt8} (h : ∀ a p : Nat, endB a p = true → l ≠ endL a p) : rdS l = noneV := by
  unfold rdS
  split
  · rename_i x y hw
    by_cases hb : endB (numL x) (numL y) = true
    · obtain ⟨h1, h2, h3, h4⟩ := end_bounds hb
      have ex := numL_inv (show 0 ≤ numL x by omega)
      have ey := numL_inv (show 0 ≤ numL y by omega)
      refine absurd ?_ (h (numL x).toNat (numL y).toNat (by rw [Int.toNat_of_nonneg (by omega), Int.toNat_of_nonneg (by omega)]; exact hb))
      rw [words_two hw, endL, ← ex, ← ey]
    · exact rdV_none (by simpa using hb)
  · rfl

theorem specRead_any (s : ByteArray) (w : World) (hs : s.size ≤ 2097152) :
    Calls Tryz.prog 160 #[.string s] w fun e w' => e = .returned (rdS s.data.toList) ∧ Below w.heap.size w w' := by
  by_cases h : (wordsL s.data.toList).length = 2
  · match hw : wordsL s.data.toList, h with
    | [x, y], _ =>
      have e : rdS s.data.toList = rdV (numL x) (numL y) := by unfold rdS; rw [hw]
      rw [e]; exact specRead_two s x y w hs hw
  · have e : rdS s.data.toList = noneV := by
      unfold rdS; split
      · rename_i x y hw; rw [hw] at h; simp at h
      · rfl
    rw [e]; exact specRead_len s w hs h

end Go.Proofs.YtgfkiljkpkfapaaGreatDoor

/- Plain facts on lists of bytes: lines, streams, and what a line names. No program. No condition. -/
namespace Go.Proofs.YtgfkiljkpkfapaaGreatDoor

/-- A byte that may stand in a line; a line. -/
def byteB (c : UInt8) : Bool := decide (97 ≤ c.toNat ∧ c.toNat ≤ 122) || decide (48 ≤ c.toNat ∧ c.toNat ≤ 57) || decide (c.toNat = 32)
def linB (l : List UInt8) : Bool := decide (l.length ≤ 16) && l.all byteB
/-- A text's lines, each ahead of its sign, and what is behind the last sign. -/
def stl (x : List (List UInt8) × List UInt8) (c : UInt8) : List (List UInt8) × List UInt8 := if c = 59 then (x.1 ++ [x.2], []) else (x.1, x.2 ++ [c])
def linesF (l : List UInt8) : List (List UInt8) × List UInt8 := l.foldl stl ([], [])
def linesL (l : List UInt8) : List (List UInt8) := (linesF l).1
def restL (l : List UInt8) : List UInt8 := (linesF l).2
theorem linesF_snoc (l : List UInt8) (c : UInt8) : linesF (l ++ [c]) = stl (linesF l) c := by simp [linesF]
def flatL (x : List (List UInt8) × List UInt8) : List UInt8 := (x.1.map (· ++ [59])).flatten ++ x.2
theorem flatL_stl (x : List (List UInt8) × List UInt8) (c : UInt8) : flatL (stl x c) = flatL x ++ [c] := by
  unfold stl flatL
  split
  · rename_i h; subst h; simp
  · simp
theorem flatL_fold (l : List UInt8) (x : List (List UInt8) × List UInt8) : flatL (l.foldl stl x) = flatL x ++ l := by
  induction l generalizing x with
  | nil => simp
  | cons c r ih => rw [List.foldl_cons, ih, flatL_stl]; simp
theorem flatL_lines (l : List UInt8) : flatL (linesF l) = l := by
  unfold linesF; rw [flatL_fold]; simp [flatL]
theorem drop_app (p r : List UInt8) : (p ++ r).drop ((p ++ r).length - r.length) = r := by
  rw [List.length_append, Nat.add_sub_cancel]; simp
/-- What is behind the last sign is the text's end. -/
theorem rest_drop (l : List UInt8) : restL l = l.drop (l.length - (restL l).length) := by
  have h : ((linesF l).1.map (· ++ [59])).flatten ++ restL l = l := flatL_lines l
  have h2 := drop_app ((linesF l).1.map (· ++ [59])).flatten (restL l)
  rw [h] at h2; exact h2.symm
theorem rest_le (l : List UInt8) : (restL l).length ≤ l.length := by
  have h3 := congrArg List.length (flatL_lines l)
  unfold flatL at h3
  rw [List.length_append] at h3
  unfold restL; omega
theorem lines_len (l : List UInt8) : (linesL l).length + (restL l).length ≤ l.length := by
  have key : ∀ (l : List UInt8) (x : List (List UInt8) × List UInt8), (l.foldl stl x).1.length + (l.foldl stl x).2.length ≤ x.1.length + x.2.length + l.length := by
    intro l
    induction l with
    | nil => intro x; simp
    | cons c r ih =>
      intro x
      rw [List.foldl_cons]
      have := ih (stl x c)
      have h2 : (stl x c).1.length + (stl x c).2.length ≤ x.1.length + x.2.length + 1 := by unfold stl; split <;> simp; omega
      simp; omega
  have := key l ([], [])
  simpa [linesL, restL, linesF] using this
theorem line_len {l x : List UInt8} (h : x ∈ linesL l) : x.length ≤ l.length := by
  have h3 := congrArg List.length (flatL_lines l)
  unfold flatL at h3
  rw [List.length_append] at h3
  have key : ∀ (xs : List (List UInt8)), x ∈ xs → x.length ≤ (xs.map (· ++ [59])).flatten.length := by
    intro xs
    induction xs with
    | nil => intro h; cases h
    | cons a r ih =>
      intro h
      rcases List.mem_cons.1 h with rfl | h
      · simp
      · have := ih h
        simp at this ⊢; omega
  unfold linesL at h
  have := key _ h
  omega
def strB (l : List UInt8) : Bool := decide (l.length ≤ 120) && (linesL l).all linB && linB (restL l)

/-- The word ahead of an end in a line. -/
def portL : List UInt8 := [112, 111, 114, 116, 32]

end Go.Proofs.YtgfkiljkpkfapaaGreatDoor

/- LinPort of the specification, at every end and at what is none. No condition. -/
namespace Go.Proofs.YtgfkiljkpkfapaaGreatDoor
open Go.RowKit

/-- The line that names an end. -/
def lpL (a p : Int) : List UInt8 := if endB a p = true then portL ++ endL a.toNat p.toNat else []
theorem port_cat (l : List UInt8) : (⟨#[112, 111, 114, 116, 32]⟩ : ByteArray) ++ ⟨l.toArray⟩ = ⟨(portL ++ l).toArray⟩ := by
  apply ByteArray.ext; simp [portL]

set_option maxRecDepth 100000 in
set_option maxHeartbeats 800000 in
theorem specLinPort_any (a p : Int) (w : World) :
    Calls Tryz.prog 143 #[.agg #[.int .i64 a, .int .i64 p]] w fun e w' => e = .returned (.string ⟨(lpL a p).toArray⟩) ∧ Below w.heap.size w w' := by
  by_cases hb : endB a p = true
  · obtain ⟨h1, h2, h3, h4⟩ := end_bounds hb
    obtain ⟨m, rfl⟩ := Int.eq_ofNat_of_zero_le (show 0 ≤ a by omega)
    obtain ⟨n, rfl⟩ := Int.eq_ofNat_of_zero_le (show 0 ≤ p by omega)
    have HL : Hid (lpL m n = portL ++ endL m n) := if_pos hb
    have n1 : ¬ 9223372036854775807 < 5 + (endL m n).length := by
      have := dec_len4 (k := m) (by omega); have := dec_len4 (k := n) (by omega)
      simp [endL]; omega
    have HT : Hid (∀ w, Calls Tryz.prog 161 #[.agg #[.int .i64 (m : Int), .int .i64 (n : Int)]] w fun e w' => e = .returned (.string ⟨(endL m n).toArray⟩) ∧ Below w.heap.size w w') := fun w => specText_yes m n w hb
    go_enter Tryz.func143, Tryz.ntmps143
    go_wp2_with (first
      | (go_at_call 48; refine (specOk_any _ _ _).mono ?_; rintro e w1 ⟨rfl, b1⟩; obtain ⟨c1, f1⟩ := bcell b1)
      | (go_at_call 161; refine (HT.out _).mono ?_; rintro e w2 ⟨rfl, b2⟩))
    go_ret
    refine ⟨?_, (below_box b1).trans (b2.mono (by have := b1.size; simp at this; omega))⟩
    rw [HL.out, ← port_cat]; rfl
  · have HL : Hid (lpL a p = []) := if_neg hb
    go_enter Tryz.func143, Tryz.ntmps143
    go_wp2_with (go_at_call 48; refine (specOk_any _ _ _).mono ?_; rintro e w1 ⟨rfl, b1⟩)
    go_ret
    exact ⟨by rw [HL.out]; rfl, below_box b1⟩

end Go.Proofs.YtgfkiljkpkfapaaGreatDoor

/- LinSays and LinBox of the specification. Condition: the text has at most 2^21 bytes. -/
namespace Go.Proofs.YtgfkiljkpkfapaaGreatDoor
open Go.RowKit

/-- The end inside that a line names; the port of the box's. -/
def saysE (l : List UInt8) : Option (Int × Int) := if l.take 5 = portL then match rdE (l.drop 5) with | some (a, p) => if insB a p = true then some (a, p) else none | none => none else none
def boxE (l : List UInt8) : Option Int := if l.take 5 = portL then match rdE (l.drop 5) with | some (a, p) => if a = 50 then some p else none | none => none else none

theorem ext_drop (s : ByteArray) (i : Nat) : (s.extract i s.size).data.toList = s.data.toList.drop i := by
  rw [ext_list, List.take_of_length_le (by rw [len_list]; omega)]
theorem ext_take (s : ByteArray) (i : Nat) : (s.extract 0 i).data.toList = s.data.toList.take i := by
  rw [ext_list]; simp

/-- What LinSays and LinBox answer. -/
def saysV : Option (Int × Int) → Value
  | some (a, p) => .tuple #[.agg #[.int .i64 a, .int .i64 p], .bool true]
  | none => .tuple #[.agg #[.int .i64 0, .int .i64 0], .bool false]
def boxV : Option Int → Value
  | some p => .tuple #[.int .i64 p, .bool true]
  | none => .tuple #[.int .i64 0, .bool false]

set_option maxRecDepth 100000 in
set_option maxHeartbeats 800000 in
theorem specSays_any (s : ByteArray) (w : World) (hs : s.size ≤ 2097152) :
    Calls Tryz.prog 147 #[.string s] w fun e w' => e = .returned (saysV (saysE s.data.toList)) ∧ Below w.heap.size w w' := by
  have hshort : s.data.toList.take 5 = portL → 5 ≤ s.size := by
    intro h; have := congrArg List.length h; simp [portL] at this; omega
  by_cases h5 : s.size < 5
  · have HV : Hid (saysE s.data.toList = none) := by
      show saysE s.data.toList = none
      unfold saysE; rw [if_neg (fun h => by have := hshort h; omega)]
    clear hshort
    go_enter Tryz.func147, Tryz.ntmps147
    go_wp2_with fail
    refine bodyPost_ret (v := .tuple #[.agg #[.int .i64 0, .int .i64 0], .bool false]) (by simp [results, Tryz.results147, go_sem]) rfl ⟨by rw [HV.out]; rfl, ?_⟩
    exact (Below.refl _ _).alloc (Nat.le_refl _) _
  · by_cases ht : s.data.toList.take 5 = portL
    · have hq : (!(s.extract 0 5).toList == [112, 111, 114, 116, 32]) = false := by
        rw [Lib.toList_data, ext_take, ht]; rfl
      have HE : Hid (∀ w, Calls Tryz.prog 160 #[.string (s.extract 5 s.size)] w fun e w' => e = .returned (rdS (s.data.toList.drop 5)) ∧ Below w.heap.size w w') := by
        intro w; have := specRead_any (s.extract 5 s.size) w (by simp; omega); rw [ext_drop] at this; exact this
      rcases hr : rdE (s.data.toList.drop 5) with _ | ⟨a, p⟩
      · have HV : Hid (saysE s.data.toList = none) := by
          show saysE s.data.toList = none
          unfold saysE; rw [if_pos ht, hr]
        have HR := Lib.hid (rdE_none hr)
        clear hshort hr ht
        go_enter Tryz.func147, Tryz.ntmps147
        go_wp2_with (go_at_call 160; refine (HE.out _).mono ?_; rintro e w1 ⟨rfl, b1⟩; rw [HR.out]; obtain ⟨c1, f1⟩ := bcell b1; have z1 : w.heap.size < w1.heap.size := by (have hq := b1.size; simp at hq; omega))
        obtain ⟨q0, q1, q2⟩ := set_two (w := w1) (b := w.heap.size) (x := .int .i64 0) (y := .int .i64 0) (.int .i64 0) (.int .i64 0) (by rw [c1 _ _ (by simp)]; simp) (by rw [c1 _ _ (by simp)]; simp)
        refine bodyPost_ret (v := .tuple #[.agg #[.int .i64 0, .int .i64 0], .bool false]) (by simp [results, Tryz.results147, go_sem, cell_alloc_lt, z1, q1, q2]) rfl ⟨by rw [HV.out]; rfl, ?_⟩
        exact (((below_box b1).setCell (Nat.le_refl _) _).setCell (Nat.le_refl _) _).alloc (by simp; omega) _
      · obtain ⟨hR, hb⟩ := rdE_some hr
        have HR := Lib.hid hR
        by_cases hin : insB a p = true
        · have HV : Hid (saysE s.data.toList = some (a, p)) := by
            show saysE s.data.toList = some (a, p)
            unfold saysE; rw [if_pos ht, hr]; simp [hin]
          clear hshort hr ht hR hb
          go_enter Tryz.func147, Tryz.ntmps147
          go_wp2_with (first
            | (go_at_call 160; refine (HE.out _).mono ?_; rintro e w1 ⟨rfl, b1⟩; rw [HR.out]; obtain ⟨c1, f1⟩ := bcell b1; have z1 : w.heap.size < w1.heap.size := by (have hq := b1.size; simp at hq; omega))
            | (go_at_call 14; refine (specInside_any _ _ _).mono ?_; rintro e w3 ⟨rfl, b3⟩; obtain ⟨c3, f3⟩ := bcell b3; have z3 : w1.heap.size < w3.heap.size := by (have hq := b3.size; simp at hq; omega)))
          obtain ⟨q0, q1, q2⟩ := set_two (w := w3) (b := w.heap.size) (x := .int .i64 0) (y := .int .i64 0) (.int .i64 a) (.int .i64 p) (by rw [c3 _ _ (by simp; omega), cell_alloc_lt z1, c1 _ _ (by simp)]; simp) (by rw [c3 _ _ (by simp; omega), cell_alloc_lt z1, c1 _ _ (by simp)]; simp)
          refine bodyPost_ret (v := .tuple #[.agg #[.int .i64 a, .int .i64 p], .bool true]) (by simp [results, Tryz.results147, go_sem, q1, q2]) rfl ⟨by rw [HV.out]; rfl, ?_⟩
          exact ((((below_box b1).trans (((Below.refl _ w1).alloc (Nat.le_refl _) _ |>.trans (b3.mono (by simp))).mono (by omega))).setCell (Nat.le_refl _) _).setCell (Nat.le_refl _) _)
        · have HV : Hid (saysE s.data.toList = none) := by
            show saysE s.data.toList = none
            unfold saysE; rw [if_pos ht, hr]; simp [hin]
          clear hshort hr ht hR hb
          go_enter Tryz.func147, Tryz.ntmps147
          go_wp2_with (first
            | (go_at_call 160; refine (HE.out _).mono ?_; rintro e w1 ⟨rfl, b1⟩; rw [HR.out]; obtain ⟨c1, f1⟩ := bcell b1; have z1 : w.heap.size < w1.heap.size := by (have hq := b1.size; simp at hq; omega))
            | (go_at_call 14; refine (specInside_any _ _ _).mono ?_; rintro e w3 ⟨rfl, b3⟩; obtain ⟨c3, f3⟩ := bcell b3; have z3 : w1.heap.size < w3.heap.size := by (have hq := b3.size; simp at hq; omega)))
          obtain ⟨q0, q1, q2⟩ := set_two (w := w3) (b := w.heap.size) (x := .int .i64 0) (y := .int .i64 0) (.int .i64 0) (.int .i64 0) (by rw [c3 _ _ (by simp; omega), cell_alloc_lt z1, c1 _ _ (by simp)]; simp) (by rw [c3 _ _ (by simp; omega), cell_alloc_lt z1, c1 _ _ (by simp)]; simp)
          refine bodyPost_ret (v := .tuple #[.agg #[.int .i64 0, .int .i64 0], .bool false]) (by simp [results, Tryz.results147, go_sem, q1, q2]) rfl ⟨by rw [HV.out]; rfl, ?_⟩
          exact ((((below_box b1).trans (((Below.refl _ w1).alloc (Nat.le_refl _) _ |>.trans (b3.mono (by simp))).mono (by omega))).setCell (Nat.le_refl _) _).setCell (Nat.le_refl _) _)
    · have hq : (!(s.extract 0 5).toList == [112, 111, 114, 116, 32]) = true := by
        rw [Lib.toList_data, ext_take]; simpa [portL] using ht
      have HV : Hid (saysE s.data.toList = none) := by
        show saysE s.data.toList = none
        unfold saysE; rw [if_neg ht]
      clear hshort ht
      go_enter Tryz.func147, Tryz.ntmps147
      go_wp2_with fail
      refine bodyPost_ret (v := .tuple #[.agg #[.int .i64 0, .int .i64 0], .bool false]) (by simp [results, Tryz.results147, go_sem]) rfl ⟨by rw [HV.out]; rfl, ?_⟩
      exact (Below.refl _ _).alloc (Nat.le_refl _) _

set_option maxRecDepth 100000 in
set_option maxHeartbeats 800000 in
theorem specBox_any (s : ByteArray) (w : World) (hs : s.size ≤ 2097152) :
    Calls Tryz.prog 142 #[.string s] w fun e w' => e = .returned (boxV (boxE s.data.toList)) ∧ Below w.heap.size w w' := by
  have hshort : s.data.toList.take 5 = portL → 5 ≤ s.size := by
    intro h; have := congrArg List.length h; simp [portL] at this; omega
  by_cases h5 : s.size < 5
  · have HV : Hid (boxE s.data.toList = none) := by
      show boxE s.data.toList = none
      unfold boxE; rw [if_neg (fun h => by have := hshort h; omega)]
    clear hshort
    go_enter Tryz.func142, Tryz.ntmps142
    go_wp2_with fail
    go_ret2
    exact ⟨by rw [HV.out]; rfl, Below.refl _ _⟩
  · by_cases ht : s.data.toList.take 5 = portL
    · have hq : (!(s.extract 0 5).toList == [112, 111, 114, 116, 32]) = false := by
        rw [Lib.toList_data, ext_take, ht]; rfl
      have HE : Hid (∀ w, Calls Tryz.prog 160 #[.string (s.extract 5 s.size)] w fun e w' => e = .returned (rdS (s.data.toList.drop 5)) ∧ Below w.heap.size w w') := by
        intro w; have := specRead_any (s.extract 5 s.size) w (by simp; omega); rw [ext_drop] at this; exact this
      rcases hr : rdE (s.data.toList.drop 5) with _ | ⟨a, p⟩
      · have HV : Hid (boxE s.data.toList = none) := by
          show boxE s.data.toList = none
          unfold boxE; rw [if_pos ht, hr]
        have HR := Lib.hid (rdE_none hr)
        clear hshort hr ht
        go_enter Tryz.func142, Tryz.ntmps142
        go_wp2_with (go_at_call 160; refine (HE.out _).mono ?_; rintro e w1 ⟨rfl, b1⟩; rw [HR.out])
        go_ret2
        exact ⟨by rw [HV.out]; rfl, b1.alloc b1.size _⟩
      · obtain ⟨hR, hb⟩ := rdE_some hr
        have HR := Lib.hid hR
        by_cases hin : a = 50
        · have HV : Hid (boxE s.data.toList = some p) := by
            show boxE s.data.toList = some p
            unfold boxE; rw [if_pos ht, hr]; simp [hin]
          have hne : (a != 50) = false := by simp [hin]
          clear hshort hr ht hR hb hin
          go_enter Tryz.func142, Tryz.ntmps142
          go_wp2_with (go_at_call 160; refine (HE.out _).mono ?_; rintro e w1 ⟨rfl, b1⟩; rw [HR.out])
          go_ret2
          exact ⟨by rw [HV.out]; rfl, b1.alloc b1.size _⟩
        · have HV : Hid (boxE s.data.toList = none) := by
            show boxE s.data.toList = none
            unfold boxE; rw [if_pos ht, hr]; simp [hin]
          have hne : (a != 50) = true := by simp [hin]
          clear hshort hr ht hR hb hin
          go_enter Tryz.func142, Tryz.ntmps142
          go_wp2_with (go_at_call 160; refine (HE.out _).mono ?_; rintro e w1 ⟨rfl, b1⟩; rw [HR.out])
          go_ret2
          exact ⟨by rw [HV.out]; rfl, b1.alloc b1.size _⟩
    · have hq : (!(s.extract 0 5).toList == [112, 111, 114, 116, 32]) = true := by
        rw [Lib.toList_data, ext_take]; simpa [portL] using ht
      have HV : Hid (boxE s.data.toList = none) := by
        show boxE s.data.toList = none
        unfold boxE; rw [if_neg ht]
      clear hshort ht
      go_enter Tryz.func142, Tryz.ntmps142
      go_wp2_with fail
      go_ret2
      exact ⟨by rw [HV.out]; rfl, Below.refl _ _⟩

end Go.Proofs.YtgfkiljkpkfapaaGreatDoor

/- l3Copy, MapPort and l3Put of the specification; l3Put where the end has a port or there is no room. Condition: the table has at most 2^22 ends. -/
namespace Go.Proofs.YtgfkiljkpkfapaaGreatDoor
open Go.RowKit Go.Sort

theorem own_someform {w : World} {base : Nat} {e : TypeId} {size : Nat} {v : Value} {n : Nat} {xs : List Value} (h : w.ownsRow base e size v n xs) (hne : v ≠ .slice none 0 0) : ∃ g cap, v = .slice (some ⟨g, 0, none⟩) n cap ∧ base ≤ g := by
  rcases h.2 with ⟨h0, _⟩ | ⟨g, cap, _, hv, hb, _⟩
  · exact absurd h0 hne
  · exact ⟨g, cap, hv, hb⟩

set_option maxRecDepth 100000 in
set_option maxHeartbeats 800000 in
theorem specCopy_any (v : Value) (es : List (Int × Int)) (w : World) (hn : es.length ≤ 4194304) (ht : TabAt w v es) :
    Calls Tryz.prog 81 #[.agg #[v]] w fun e w' => ∃ g c, e = .returned (.agg #[.slice (some g) es.length c]) ∧ OwnTab w' w.heap.size (.slice (some g) es.length c) es ∧ Below w.heap.size w w' := by
  obtain ⟨i0, hi, hz0, hz1, hz2⟩ := info_parts infoEnd
  obtain ⟨ad, cap, rfl, hcap, hr⟩ := ht
  cases ad with
  | none =>
    have he : es = [] := by
      rcases es with _ | ⟨x, r⟩
      · rfl
      · obtain ⟨g, hg, _⟩ := hr (by simp); cases hg
    subst he
    clear hr
    have hz : cap = 0 := hcap.2 rfl
    subst hz
    have own0 : ∀ A B, (((w.alloc A).alloc B).alloc (.cells #[] 31)).ownsRow (w.heap.size + 2) 31 2 (.slice (some ⟨w.heap.size + 1 + 1, 0, none⟩) 0 0) 0 [] := by
      intro A B
      have := World.ownsRow_made (base := w.heap.size + 2) (e := 31) (size := 2) ((w.alloc A).alloc B) #[] 0 (by simp) (Nat.zero_le _) rfl
      simpa using this
    have HO := Lib.hid own0
    clear own0
    go_enter Tryz.func81, Tryz.ntmps81
    go_wp2_with (at_builtin; refine wpList_append_own_none rfl (.tmp 3) (.tmp 5) 24 rfl (w.heap.size + 2) 31 i0 2 Tryz.underlying24 hi _ 0 [] rfl (HO.out _ _) rfl ?_)
    refine bodyPost_ret (v := .agg #[.slice (some ⟨w.heap.size + 1 + 1, 0, none⟩) 0 0]) (by simp [results, Tryz.results81, go_sem]) rfl ⟨_, 0, rfl, ?_, ?_⟩
    · have := HO.out (.cells #[.slice none 0 0] 26) (.cells #[.slice (some ⟨w.heap.size + 1 + 1, 0, none⟩) 0 0] 26)
      exact OwnTab.mono (B := w.heap.size + 2) (by simpa [OwnTab, flatE] using this) (by omega)
    · exact ((((Below.refl _ _).alloc (Nat.le_refl _) _).alloc (by simp) _).alloc (by simp; omega) _)
  | some ad =>
    have hnews : ∀ (j : Nat) (u : Value), (flatE es)[j]? = some u → w.cell? (ad.add j) = some u := by
      intro j u hj
      by_cases h0 : es.length = 0
      · rw [List.eq_nil_of_length_eq_zero h0] at hj; simp [flatE] at hj
      · obtain ⟨g, e, hrow⟩ := hr (by omega)
        simp at e; subst e
        have := hrow.flat j u hj
        rw [show (⟨g, 0, none⟩ : Addr).add j = ⟨g, j, none⟩ from by simp [Addr.add]; omega]
        exact this
    have hlt : ∀ (j : Nat) (u : Value), (flatE es)[j]? = some u → (ad.add j).block < w.heap.size := fun j u hj => World.block_lt_of_cell? w _ (hnews j u hj)
    have own0 : ∀ A B, (((w.alloc A).alloc B).alloc (.cells #[] 31)).ownsRow (w.heap.size + 2) 31 2 (.slice (some ⟨w.heap.size + 1 + 1, 0, none⟩) 0 0) 0 [] := by
      intro A B
      have := World.ownsRow_made (base := w.heap.size + 2) (e := 31) (size := 2) ((w.alloc A).alloc B) #[] 0 (by simp) (Nat.zero_le _) rfl
      simpa using this
    have HO := Lib.hid own0
    clear own0
    have HNW := Lib.hid hnews
    have HLT := Lib.hid hlt
    clear hr hnews hlt
    go_enter Tryz.func81, Tryz.ntmps81
    go_wp2_with (at_builtin; refine wpList_append_own _ rfl (.tmp 3) (.tmp 5) 24 rfl (w.heap.size + 2) 31 i0 (.agg #[.int .i64 0, .int .i64 0]) 2 16 Tryz.underlying24 hi hz0 hz1 hz2 rfl (by decide) _ 0 [] rfl (HO.out _ _) ad es.length cap (flatE es) rfl ?c1 ?c2 ?c3 ?c4 ?c5 ?c6 ?_)
    case c1 => exact flatE_len es
    case c2 =>
      intro j u hj
      have hb := HLT.out j u hj
      rw [World.cell?_alloc_old _ _ _ (by simp; omega), World.cell?_alloc_old _ _ _ (by simp; omega), World.cell?_alloc_old _ _ _ (by omega)]
      exact HNW.out j u hj
    case c3 => exact flatE_one es
    case c4 => unfold maxLen; omega
    case c5 => omega
    case c6 => simp
    · intro v' w' hown hgrow hnil
      have hblk := hgrow.block (w.heap.size + 1) (by simp) (by simp [Value.ownBlock])
      have k0 : w'.cell? ⟨w.heap.size + 1, 0, none⟩ = some (.slice none 0 0) := by rw [World.cell?_of_block (a := ⟨w.heap.size + 1, 0, none⟩) hblk, (cell_second w _ _ _ _ 0).1]; rfl
      have r0 : w'.frozen? ⟨w.heap.size + 1, 0, none⟩ = false := by rw [World.frozen?_of_block (a := ⟨w.heap.size + 1, 0, none⟩) hblk]; exact (cell_second w _ _ _ _ 0).2
      have hbw : Below w.heap.size w w' := ((((Below.refl _ _).alloc (Nat.le_refl _) _).alloc (by simp) _).alloc (by simp; omega) _).grown hgrow (by simp; omega) (fun k hk => by simp [Value.ownBlock] at hk; omega)
      obtain ⟨a1, cap1, rfl⟩ : ∃ g c, v' = .slice (some g) es.length c := by
        obtain ⟨g, c, e, _⟩ := own_someform hown hnil
        exact ⟨_, _, e⟩
      have HG := Lib.hid hown
      clear hown hgrow hblk
      go_wp2
      refine bodyPost_ret (v := .agg #[.slice (some a1) es.length cap1]) (by simp [results, Tryz.results81, go_sem, World.cell?_setCell_same _ _ _ k0]) rfl ⟨_, _, rfl, ?_, hbw.setCell (by simp) _⟩
      have := ownsRow_setCell_below (a := ⟨w.heap.size + 1, 0, none⟩) HG.out (by simp) (.slice (some a1) es.length cap1)
      exact OwnTab.mono (B := w.heap.size + 2) (by simpa [OwnTab] using this) (by omega)

set_option maxRecDepth 100000 in
set_option maxHeartbeats 800000 in
theorem specPort_any (v : Value) (es : List (Int × Int)) (a p : Int) (w : World) (hn : es.length ≤ 4194304) (ht : TabAt w v es) :
    Calls Tryz.prog 82 #[.agg #[v], .agg #[.int .i64 a, .int .i64 p]] w fun e w' => e = .returned (.int .i64 (portI es (a, p))) ∧ Below w.heap.size w w' := by
  have HT := Lib.hid ht
  obtain ⟨ad, cap, rfl, hcap, hr⟩ := ht
  obtain ⟨f0, f1⟩ := findI_bounds es (a, p)
  have f2 : findI es (a, p) < 4194304 := by omega
  obtain ⟨k, hk⟩ : ∃ k, k = findI es (a, p) := ⟨_, rfl⟩
  have HF : Hid (∀ w, TabAt w (.slice ad es.length cap) es → Calls Tryz.prog 83 #[.agg #[.slice ad es.length cap], .agg #[.int .i64 a, .int .i64 p]] w fun e w' => e = .returned (.int .i64 k) ∧ Below w.heap.size w w') := fun w h => by rw [hk]; exact specFind_any _ es a p w hn h
  rw [← hk] at f0 f2
  have HP : Hid (portI es (a, p) = if k < 0 then 0 else 500 + k) := by show portI es (a, p) = _; rw [hk]; rfl
  clear hk f1 hr
  by_cases hneg : k < 0
  all_goals
    go_enter Tryz.func82, Tryz.ntmps82
    go_wp2_with (go_at_call 83; refine (HF.out _ (HT.out.below (((Below.refl _ _).alloc (Nat.le_refl _) _).alloc (by simp) _))).mono ?_; rintro e w1 ⟨rfl, b1⟩)
    go_ret
    refine ⟨ret_int ?_, (((Below.refl _ _).alloc (Nat.le_refl _) _).alloc (by simp) _).trans (b1.mono (by simp; omega))⟩
    rw [HP.out]
    first | rw [if_pos (by omega)] | rw [if_neg (by omega)]

set_option maxRecDepth 100000 in
set_option maxHeartbeats 1600000 in
/-- l3Put where the end has a port: the table as it is. -/
theorem specPut_has (ad : Addr) (cap : Nat) (es : List (Int × Int)) (a p : Int) (w : World) (hn : es.length ≤ 4194304) (ht : TabAt w (.slice (some ad) es.length cap) es) (hp : 0 < portI es (a, p)) :
    Calls Tryz.prog 39 #[.agg #[.slice (some ad) es.length cap], .agg #[.int .i64 a, .int .i64 p]] w fun e w' => e = .returned (.tuple #[.agg #[.slice (some ad) es.length cap], .int .i64 (portI es (a, p))]) ∧ Below w.heap.size w w' := by
  have HT := Lib.hid ht
  obtain ⟨k, hk⟩ : ∃ k, k = portI es (a, p) := ⟨_, rfl⟩
  have HP : Hid (∀ w, TabAt w (.slice (some ad) es.length cap) es → Calls Tryz.prog 82 #[.agg #[.slice (some ad) es.length cap], .agg #[.int .i64 a, .int .i64 p]] w fun e w' => e = .returned (.int .i64 k) ∧ Below w.heap.size w w') := fun w h => by rw [hk]; exact specPort_any _ es a p w hn h
  rw [← hk] at hp ⊢
  clear ht hk
  go_enter Tryz.func39, Tryz.ntmps39
  go_wp2_with (go_at_call 82; refine (HP.out _ (HT.out.below ((((Below.refl _ _).alloc (Nat.le_refl _) _).alloc (by simp) _).alloc (by simp; omega) _))).mono ?_; rintro e w1 ⟨rfl, b1⟩; obtain ⟨cA, cB, cC, b01, z1⟩ := cell_three b1; have a0 := (cA 0).1; have r0 := (cC 0).1; have g0 := (cC 0).2; simp at a0 r0)
  refine bodyPost_ret (v := .tuple #[.agg #[.slice (some ad) es.length cap], .int .i64 k]) (by simp [results, Tryz.results39, go_sem, World.cell?_setCell_same _ _ _ r0]) rfl ⟨rfl, ?_⟩
  exact b01.setCell (by simp; omega) _

set_option maxRecDepth 100000 in
set_option maxHeartbeats 1600000 in
/-- l3Put where there is no room: the table as it is, and 0. -/
theorem specPut_full (ad : Addr) (cap : Nat) (es : List (Int × Int)) (a p : Int) (w : World) (hn : es.length ≤ 4194304) (ht : TabAt w (.slice (some ad) es.length cap) es) (hp : portI es (a, p) = 0) (h6 : es.length = 6) :
    Calls Tryz.prog 39 #[.agg #[.slice (some ad) es.length cap], .agg #[.int .i64 a, .int .i64 p]] w fun e w' => e = .returned (.tuple #[.agg #[.slice (some ad) es.length cap], .int .i64 0]) ∧ Below w.heap.size w w' := by
  have HT := Lib.hid ht
  have HP : Hid (∀ w, TabAt w (.slice (some ad) es.length cap) es → Calls Tryz.prog 82 #[.agg #[.slice (some ad) es.length cap], .agg #[.int .i64 a, .int .i64 p]] w fun e w' => e = .returned (.int .i64 0) ∧ Below w.heap.size w w') := fun w h => by rw [← hp]; exact specPort_any _ es a p w hn h
  have h6' : ((es.length : Int) == 6) = true := by simp; omega
  clear ht hp h6
  go_enter Tryz.func39, Tryz.ntmps39
  go_wp2_with (go_at_call 82; refine (HP.out _ (HT.out.below ((((Below.refl _ _).alloc (Nat.le_refl _) _).alloc (by simp) _).alloc (by simp; omega) _))).mono ?_; rintro e w1 ⟨rfl, b1⟩; obtain ⟨cA, cB, cC, b01, z1⟩ := cell_three b1; have a0 := (cA 0).1; have r0 := (cC 0).1; have g0 := (cC 0).2; simp at a0 r0)
  refine bodyPost_ret (v := .tuple #[.agg #[.slice (some ad) es.length cap], .int .i64 0]) (by simp [results, Tryz.results39, go_sem, World.cell?_setCell_same _ _ _ r0]) rfl ⟨rfl, ?_⟩
  exact b01.setCell (by simp; omega) _

end Go.Proofs.YtgfkiljkpkfapaaGreatDoor

/- l3Put of the specification where there is room. Condition: the table has at most 2^22 ends and lies at an address. -/
namespace Go.Proofs.YtgfkiljkpkfapaaGreatDoor
open Go.RowKit Go.Sort

theorem heap_last (w : World) (o : Obj) : (w.alloc o).heap[w.heap.size]? = some o := by
  show (w.heap.push o)[w.heap.size]? = _
  simp
theorem heap_lastd {w : World} {k : Nat} (o : Obj) (h : k = w.heap.size) : (w.alloc o).drew.heap[k]? = some o := by subst h; exact heap_last w o
theorem heap_last2d {w : World} (o o' : Obj) : ((w.alloc o).alloc o').drew.heap[w.heap.size]? = some o := (Below.heap_alloc (w.alloc o) o' _ (by simp)).trans (heap_last w o)

/-- append onto a slice of the call's own that is not nil, at a step of a region that draws its order: whatever the number that comes, none too. -/
theorem step_append_some {P : Program} (w : World) {ops : Array Oper} {o : Oper} {a : Act} {K : Act → World → Prop} {Q : Exit → Act → World → Prop} {E : Prop} (hgd : o.guard = none) (s x : Operand) (t : TypeId)
    (ho : o.op = .call { callee := .builtin .append, args := #[s, x], argTypes := #[t, t] })
    (base : Nat) (e : TypeId) (i : TypeInfo) (z : Value) (size bytes : Nat) (ht : P.underlying t = some (.slice e)) (hi : P.info? e = some i) (hz : i.zero = some z)
    (hsize : i.size = size) (hby : i.bytes = bytes) (hzs : z.cells.size = size) (hsz : 0 < size)
    (v : Value) (n : Nat) (xs : List Value) (hs : a.eval s = v) (hown : w.ownsRow base e size v n xs) (hne : v ≠ .slice none 0 0)
    (ad : Addr) (m c : Nat) (news : List Value) (hx : a.eval x = .slice (some ad) m c) (hl : news.length = m * size) (hnews : ∀ j u, news[j]? = some u → w.cell? (ad.add j) = some u) (h1 : ∀ u ∈ news, u.oneCell' = true)
    (h63 : n + m ≤ maxLen) (hbytes : (n + m) * bytes ≤ 140737488355328) (hbase : base ≤ w.heap.size)
    (h : ∀ g cap w', w'.ownsRow base e size (.slice (some ⟨g, 0, none⟩) (n + m) cap) (n + m) (xs ++ news) → w.grownBy w' v.ownBlock → base ≤ g → K (a.put o.dst (.slice (some ⟨g, 0, none⟩) (n + m) cap)) w') :
    if Region.wanted o (yielded ops a.tmps) = true then Oper.wp P o a w K Q else E := by
  have hw : Region.wanted o (yielded ops a.tmps) = true := by simp [Region.wanted, hgd]
  rw [if_pos hw]
  obtain ⟨v', w', hr, h2, h3, h4, _⟩ := run_append_own_at (P := P) w base t o.type e i z size bytes ht hi hz hsize hby hzs hsz v n xs hown ad m c news hl hnews h1 h63 hbytes hbase
  obtain ⟨g, cap, rfl, hb⟩ := own_someform h2 (fun hv => hne (h4.1 hv).1)
  unfold Oper.wp execOp
  simp only [ho, resolve, invoke, builtin, Sem.run_bind, Sem.run_pure, Result.andThen_ok, List.map_toArray, List.map_cons, List.map_nil, hs, hx, hr]
  exact h g cap w' h2 h3 hb

set_option maxRecDepth 100000 in
set_option maxHeartbeats 3200000 in
/-- l3Put where there is room: the end behind all, in a table of the call's own. -/
theorem specPut_new (ad : Addr) (cap : Nat) (es : List (Int × Int)) (a p : Int) (w : World) (hn : es.length ≤ 4194304) (ht : TabAt w (.slice (some ad) es.length cap) es) (hp : portI es (a, p) = 0) (h6 : es.length ≠ 6) :
    Calls Tryz.prog 39 #[.agg #[.slice (some ad) es.length cap], .agg #[.int .i64 a, .int .i64 p]] w fun e w' => ∃ g c, e = .returned (.tuple #[.agg #[.slice (some g) (es.length + 1) c], .int .i64 (500 + (es.length : Int))]) ∧ OwnTab w' w.heap.size (.slice (some g) (es.length + 1) c) (es ++ [(a, p)]) ∧ Below w.heap.size w w' := by
  have HT := Lib.hid ht
  have HP : Hid (∀ w, TabAt w (.slice (some ad) es.length cap) es → Calls Tryz.prog 82 #[.agg #[.slice (some ad) es.length cap], .agg #[.int .i64 a, .int .i64 p]] w fun e w' => e = .returned (.int .i64 0) ∧ Below w.heap.size w w') := fun w h => by rw [← hp]; exact specPort_any _ es a p w hn h
  obtain ⟨i0, hi, hz0, hz1, hz2⟩ := info_parts infoEnd
  have h6' : ((es.length : Int) == 6) = false := by simp; omega
  clear ht hp h6
  go_enter Tryz.func39, Tryz.ntmps39
  go_upto_region 6 with (go_at_call 82; refine (HP.out _ (HT.out.below ((((Below.refl _ _).alloc (Nat.le_refl _) _).alloc (by simp) _).alloc (by simp <;> omega) _))).mono ?_; rintro e w1 ⟨rfl, b1⟩; obtain ⟨cA, cB, cC, b01, z1⟩ := cell_three b1; have a0 := (cA 0).1; have s0 := (cA 0).2; have e0 := (cB 0).1; have e1 := (cB 1).1; have r0 := (cC 0).1; have g0 := (cC 0).2; simp at a0 e0 e1 r0)
  have HTW : Hid (TabAt w1 (.slice (some ad) es.length cap) es) := HT.out.below b01
  have hsrc : Hid (∀ wx, Below w1.heap.size w1 wx → ∀ (j : Nat) (u : Value), (flatE es)[j]? = some u → wx.cell? (ad.add j) = some u) := by
    intro wx hb j u hj
    have h1 : 0 < es.length := by
      rcases es with _ | ⟨x, r⟩
      · simp [flatE] at hj
      · simp
    obtain ⟨a', cap', e', _, hr⟩ := HTW.out
    simp at e'
    obtain ⟨g, e, hrow⟩ := hr h1
    rw [← e'.1] at e
    simp at e; subst e
    rw [show (⟨g, 0, none⟩ : Addr).add j = ⟨g, j, none⟩ from by simp [Addr.add]; omega, hb.cell (p := ⟨g, j, none⟩) (hrow.lt h1)]
    exact hrow.flat j u hj
  have own0 : Hid (∀ wx : World, w1.heap.size ≤ wx.heap.size → (wx.alloc (.cells #[] 31)).ownsRow w1.heap.size 31 2 (.slice (some ⟨wx.heap.size, 0, none⟩) 0 0) 0 []) :=
    fun wx h => World.ownsRow_made wx #[] 0 h (Nat.zero_le _) rfl
  have B0 : Hid (Below w.heap.size w w1) := b01
  clear b1 cA cB cC b01
  have a0x : ∀ o, (w1.alloc o).cell? ⟨w.heap.size, 0, none⟩ = some (.slice (some ad) es.length cap) := fun o => by rw [cell_alloc_lt (by omega)]; exact a0
  have a0y : ∀ o o', ((w1.alloc o).alloc o').cell? ⟨w.heap.size, 0, none⟩ = some (.slice (some ad) es.length cap) := fun o o' => by rw [cell_alloc_lt (by simp <;> omega), cell_alloc_lt (by omega)]; exact a0
  have e0x : ∀ o, (w1.alloc o).cell? ⟨w.heap.size + 1, 0, none⟩ = some (.int .i64 a) := fun o => by rw [cell_alloc_lt (by omega)]; exact e0
  have e0y : ∀ o o', ((w1.alloc o).alloc o').cell? ⟨w.heap.size + 1, 0, none⟩ = some (.int .i64 a) := fun o o' => by rw [cell_alloc_lt (by simp <;> omega), cell_alloc_lt (by omega)]; exact e0
  have e1x : ∀ o, (w1.alloc o).cell? ⟨w.heap.size + 1, 1, none⟩ = some (.int .i64 p) := fun o => by rw [cell_alloc_lt (by omega)]; exact e1
  have e1y : ∀ o o', ((w1.alloc o).alloc o').cell? ⟨w.heap.size + 1, 1, none⟩ = some (.int .i64 p) := fun o o' => by rw [cell_alloc_lt (by simp <;> omega), cell_alloc_lt (by omega)]; exact e1
  have own1 : Hid (((w1.alloc (.cells #[] 31)).drew).ownsRow w1.heap.size 31 2 (.slice (some ⟨w1.heap.size, 0, none⟩) 0 0) 0 []) := (own0.out w1 (Nat.le_refl _)).drew
  have own2 : Hid (∀ o, (((w1.alloc (.cells #[] 31)).alloc o).drew).ownsRow w1.heap.size 31 2 (.slice (some ⟨w1.heap.size, 0, none⟩) 0 0) 0 []) := fun o => ((own0.out w1 (Nat.le_refl _)).alloc o).drew
  have own3 : Hid (∀ o, (((w1.alloc o).alloc (.cells #[] 31)).drew).ownsRow w1.heap.size 31 2 (.slice (some ⟨w1.heap.size + 1, 0, none⟩) 0 0) 0 []) := fun o => by have := (own0.out (w1.alloc o) (by simp)).drew; simpa using this
  have bl1 : Hid (∀ o, Below w1.heap.size w1 ((w1.alloc o).drew)) := fun o => ((Below.refl _ _).alloc (Nat.le_refl _) _).drew
  have bl2 : Hid (∀ o o', Below w1.heap.size w1 (((w1.alloc o).alloc o').drew)) := fun o o' => ((((Below.refl _ _).alloc (Nat.le_refl _) _).alloc (by simp) _)).drew
  go_cut [] (fun wx => ∃ g c : Nat, wx.cell? ⟨w.heap.size, 0, none⟩ = some (.slice (some ⟨g, 0, none⟩) (es.length + 1) c) ∧ wx.cell? ⟨w.heap.size + 1 + 1, 0, none⟩ = some (.slice none 0 0) ∧ wx.frozen? ⟨w.heap.size + 1 + 1, 0, none⟩ = false ∧ wx.ownsRow w1.heap.size 31 2 (.slice (some ⟨g, 0, none⟩) (es.length + 1) c) (es.length + 1) (flatE (es ++ [(a, p)])) ∧ Below w.heap.size w wx)
  case first =>
    go_region_law (first
      | ((refine step_append_some _ rfl (.tmp 19) (.tmp 21) 24 rfl w1.heap.size 31 i0 (.agg #[.int .i64 0, .int .i64 0]) 2 16 Tryz.underlying24 hi hz0 hz1 hz2 rfl (by decide) (.slice (some ⟨w1.heap.size, 0, none⟩) 0 0) 0 [] (by rfl) (by first | exact own1.out | exact own2.out _ | exact own3.out _) (by simp) ad es.length cap (flatE es) (by rfl) (flatE_len es) (hsrc.out _ (by first | exact bl1.out _ | exact bl2.out _ _)) (flatE_one es) (by unfold maxLen; omega) (by omega) (by simp <;> omega) ?_)
         intro g1 c1 w2 hown1 hgrow1 hg1
         have hb2 : Below w1.heap.size w1 w2 := by first | exact (bl1.out _).grown hgrow1 (by simp) (fun k hk => by simp [Value.ownBlock] at hk; omega) | exact (bl2.out _ _).grown hgrow1 (by simp <;> omega) (fun k hk => by simp [Value.ownBlock] at hk; omega)
         try (have n5 : ∀ (j : Nat) (u : Value), [Value.int .i64 a, .int .i64 p][j]? = some u → w2.cell? ((⟨w1.heap.size + 1, 0, none⟩ : Addr).add j) = some u := World.news_of_block (cs := #[.int .i64 a, .int .i64 p]) (t := 31) (by rw [hgrow1.block (w1.heap.size + 1) (by simp) (by simp [Value.ownBlock])]; exact heap_lastd _ (by simp)))
         try (have n5 : ∀ (j : Nat) (u : Value), [Value.int .i64 a, .int .i64 p][j]? = some u → w2.cell? ((⟨w1.heap.size, 0, none⟩ : Addr).add j) = some u := World.news_of_block (cs := #[.int .i64 a, .int .i64 p]) (t := 31) (by rw [hgrow1.block w1.heap.size (by simp <;> omega) (by simp [Value.ownBlock])]; exact heap_last2d _ _))
         simp only [Nat.zero_add, List.nil_append] at hown1 ⊢
         have hs2 : w1.heap.size ≤ w2.heap.size := hb2.size
         have a0z : w2.cell? ⟨w.heap.size, 0, none⟩ = some (.slice (some ad) es.length cap) := by rw [hb2.cell (by simp <;> omega)]; exact a0
         have e0z : w2.cell? ⟨w.heap.size + 1, 0, none⟩ = some (.int .i64 a) := by rw [hb2.cell (by simp <;> omega)]; exact e0
         have e1z : w2.cell? ⟨w.heap.size + 1, 1, none⟩ = some (.int .i64 p) := by rw [hb2.cell (by simp <;> omega)]; exact e1)
      | ((refine step_append_some _ rfl (.tmp 19) (.tmp 21) 24 rfl w1.heap.size 31 i0 (.agg #[.int .i64 0, .int .i64 0]) 2 16 Tryz.underlying24 hi hz0 hz1 hz2 rfl (by decide) (.slice (some ⟨w1.heap.size + 1, 0, none⟩) 0 0) 0 [] (by rfl) (by first | exact own1.out | exact own2.out _ | exact own3.out _) (by simp) ad es.length cap (flatE es) (by rfl) (flatE_len es) (hsrc.out _ (by first | exact bl1.out _ | exact bl2.out _ _)) (flatE_one es) (by unfold maxLen; omega) (by omega) (by simp <;> omega) ?_)
         intro g1 c1 w2 hown1 hgrow1 hg1
         have hb2 : Below w1.heap.size w1 w2 := by first | exact (bl1.out _).grown hgrow1 (by simp) (fun k hk => by simp [Value.ownBlock] at hk; omega) | exact (bl2.out _ _).grown hgrow1 (by simp <;> omega) (fun k hk => by simp [Value.ownBlock] at hk; omega)
         try (have n5 : ∀ (j : Nat) (u : Value), [Value.int .i64 a, .int .i64 p][j]? = some u → w2.cell? ((⟨w1.heap.size + 1, 0, none⟩ : Addr).add j) = some u := World.news_of_block (cs := #[.int .i64 a, .int .i64 p]) (t := 31) (by rw [hgrow1.block (w1.heap.size + 1) (by simp) (by simp [Value.ownBlock])]; exact heap_lastd _ (by simp)))
         try (have n5 : ∀ (j : Nat) (u : Value), [Value.int .i64 a, .int .i64 p][j]? = some u → w2.cell? ((⟨w1.heap.size, 0, none⟩ : Addr).add j) = some u := World.news_of_block (cs := #[.int .i64 a, .int .i64 p]) (t := 31) (by rw [hgrow1.block w1.heap.size (by simp <;> omega) (by simp [Value.ownBlock])]; exact heap_last2d _ _))
         simp only [Nat.zero_add, List.nil_append] at hown1 ⊢
         have hs2 : w1.heap.size ≤ w2.heap.size := hb2.size
         have a0z : w2.cell? ⟨w.heap.size, 0, none⟩ = some (.slice (some ad) es.length cap) := by rw [hb2.cell (by simp <;> omega)]; exact a0
         have e0z : w2.cell? ⟨w.heap.size + 1, 0, none⟩ = some (.int .i64 a) := by rw [hb2.cell (by simp <;> omega)]; exact e0
         have e1z : w2.cell? ⟨w.heap.size + 1, 1, none⟩ = some (.int .i64 p) := by rw [hb2.cell (by simp <;> omega)]; exact e1)
      | ((refine step_append_some _ rfl (.tmp 22) (.tmp 24) 24 rfl w1.heap.size 31 i0 (.agg #[.int .i64 0, .int .i64 0]) 2 16 Tryz.underlying24 hi hz0 hz1 hz2 rfl (by decide) (.slice (some ⟨g1, 0, none⟩) es.length c1) es.length (flatE es) (by rfl) (by first | exact hown1 | exact hown1.alloc _) (by simp) _ 1 1 [.int .i64 a, .int .i64 p] (by rfl) rfl (by first | exact n5 | exact World.news_of_block (cs := #[.int .i64 a, .int .i64 p]) (t := 31) (heap_last w2 _)) (by intro u hu; simp at hu; rcases hu with rfl | rfl <;> rfl) (by unfold maxLen; omega) (by omega) (by first | exact hs2 | (simp; omega)) ?_)
         intro g2 c2 w3 hown2 hgrow2 hg2
         have hb3 : Below w1.heap.size w1 w3 := by first | exact hb2.grown hgrow2 hs2 (fun k hk => by simp [Value.ownBlock] at hk; omega) | exact (hb2.alloc hs2 _).grown hgrow2 (by simp <;> omega) (fun k hk => by simp [Value.ownBlock] at hk; omega)
         have a0v : w3.cell? ⟨w.heap.size, 0, none⟩ = some (.slice (some ad) es.length cap) := by rw [hb3.cell (by simp <;> omega)]; exact a0
         have s0v : w3.frozen? ⟨w.heap.size, 0, none⟩ = false := by rw [hb3.frozen (by simp <;> omega)]; exact s0))
    all_goals
      go_wp2_with fail
      go_meet
      refine ⟨g2, c2, World.cell?_setCell_same _ _ _ a0v, ?_, ?_, ?_, ?_⟩
      · rw [World.cell?_setCell_far w3 ⟨w.heap.size, 0, none⟩ ⟨w.heap.size + 1 + 1, 0, none⟩ _ (by show w.heap.size ≠ w.heap.size + 1 + 1; omega), hb3.cell (by simp; omega)]; exact r0
      · rw [World.frozen?_setCell, hb3.frozen (by simp; omega)]; exact g0
      · rw [flatE_app]; exact ownsRow_setCell_below (a := ⟨w.heap.size, 0, none⟩) hown2 (by simp; omega) _
      · exact (B0.out.trans (hb3.mono (by omega))).setCell (by simp) _
  case rest =>
    obtain ⟨g, c, k0, k1, k2, kown, kb⟩ := hcut
    have KO := Lib.hid kown
    have KB := Lib.hid kb
    clear kown kb own1 own2 own3 bl1 bl2 own0 hsrc HTW HT HP
    go_upto_region 7 with fail
    go_region
    all_goals go_wp2_with fail
    all_goals
      refine bodyPost_ret (v := .tuple #[.agg #[.slice (some ⟨g, 0, none⟩) (es.length + 1) c], .int .i64 (500 + ((es.length : Int) + 1) - 1)]) (by simp [results, Tryz.results39, go_sem, World.cell?_setCell_same _ _ _ k1]) rfl ⟨_, _, by rw [show (500 + ((es.length : Int) + 1) - 1) = 500 + (es.length : Int) from by omega], ?_, ?_⟩
      · have := (ownsRow_setCell_below (a := ⟨w.heap.size + 1 + 1, 0, none⟩) KO.out (by simp; omega) (.slice (some ⟨g, 0, none⟩) (es.length + 1) c)).drew
        exact OwnTab.mono (B := w1.heap.size) (by simpa [OwnTab] using this) (by omega)
      · exact (KB.out.setCell (by simp; omega) _).drew

end Go.Proofs.YtgfkiljkpkfapaaGreatDoor

/- l3Put, MapEnd and MapPut of the specification. Condition: the table has at most 2^22 ends. -/
namespace Go.Proofs.YtgfkiljkpkfapaaGreatDoor
open Go.RowKit Go.Sort

theorem portI_zero {es : List (Int × Int)} {e : Int × Int} (h : ¬ 0 < portI es e) : portI es e = 0 := by
  have := (findI_bounds es e).1
  unfold portI at *
  split <;> simp_all <;> omega

theorem specPut_any (B : Nat) (ad : Addr) (cap : Nat) (es : List (Int × Int)) (a p : Int) (w : World) (hn : es.length ≤ 4194304) (hB : B ≤ w.heap.size) (ho : OwnTab w B (.slice (some ad) es.length cap) es) :
    Calls Tryz.prog 39 #[.agg #[.slice (some ad) es.length cap], .agg #[.int .i64 a, .int .i64 p]] w fun e w' => ∃ g c, e = .returned (.tuple #[.agg #[.slice (some g) (putE es (a, p)).1.length c], .int .i64 (putE es (a, p)).2]) ∧ OwnTab w' B (.slice (some g) (putE es (a, p)).1.length c) (putE es (a, p)).1 ∧ Below w.heap.size w w' := by
  by_cases h : 0 < portI es (a, p)
  · rw [show putE es (a, p) = (es, portI es (a, p)) from if_pos h]
    refine (specPut_has ad cap es a p w hn ho.tab h).mono ?_
    rintro e w' ⟨rfl, hb⟩
    exact ⟨_, _, rfl, ho.below hb, hb⟩
  · have h0 := portI_zero h
    by_cases h6 : es.length = 6
    · rw [show putE es (a, p) = (es, 0) from by unfold putE; rw [if_neg h, if_pos h6]]
      refine (specPut_full ad cap es a p w hn ho.tab h0 h6).mono ?_
      rintro e w' ⟨rfl, hb⟩
      exact ⟨_, _, rfl, ho.below hb, hb⟩
    · rw [show putE es (a, p) = (es ++ [(a, p)], 500 + (es.length : Int)) from by unfold putE; rw [if_neg h, if_neg h6]]
      refine (specPut_new ad cap es a p w hn ho.tab h0 h6).mono ?_
      rintro e w' ⟨g, c, rfl, h1, hb⟩
      exact ⟨g, c, by simp, by simpa using h1.mono hB, hb⟩

set_option maxRecDepth 100000 in
set_option maxHeartbeats 800000 in
theorem specMapEnd_any (v : Value) (es : List (Int × Int)) (port : Int) (w : World) (hn : es.length ≤ 4194304) (ht : TabAt w v es) :
    Calls Tryz.prog 38 #[.agg #[v], .int .i64 port] w fun e w' => e = .returned (endV (endI es port)) ∧ Below w.heap.size w w' := by
  obtain ⟨ad, cap, rfl, hcap, hr⟩ := ht
  have HR := Lib.hid hr
  clear hr
  by_cases hin : 500 ≤ port ∧ port ≤ 500 + (es.length : Int) - 1
  · have hI : inB port 500 (500 + (es.length : Int) - 1) = true := by unfold inB; simp; omega
    obtain ⟨k, hk⟩ : ∃ k : Nat, port = 500 + (k : Int) := ⟨(port - 500).toNat, by omega⟩
    subst hk
    have hlt : k < es.length := by omega
    obtain ⟨g, rfl, hrow⟩ := HR.out (by omega)
    obtain ⟨r0, r1⟩ := hrow k hlt
    obtain ⟨⟨a, p⟩, hap⟩ : ∃ x, x = es[k] := ⟨_, rfl⟩
    have hE : Hid (endI es (500 + (k : Int)) = some (a, p)) := by
      show endI es (500 + (k : Int)) = _
      unfold endI
      rw [if_pos hin, show (500 + (k : Int) - 500).toNat = k from by omega, List.getElem?_eq_getElem hlt, hap]
    rw [← hap] at r0 r1
    simp only at r0 r1
    have hg : g < w.heap.size := hrow.lt (by omega)
    have hI' := Lib.hid hI
    have hk2 : (k : Int) ≤ (cap : Int) := by have := hcap.1; omega
    have K0 : ∀ o o', ((w.alloc o).alloc o').cell? ⟨g, k * 2, none⟩ = some (.int .i64 a) := fun o o' => by rw [cell_alloc_lt (by simp; omega), cell_alloc_lt hg]; exact r0
    have K1 : ∀ o o', ((w.alloc o).alloc o').cell? ⟨g, k * 2 + 1, none⟩ = some (.int .i64 p) := fun o o' => by rw [cell_alloc_lt (by simp; omega), cell_alloc_lt hg]; exact r1
    have hk5 : (500 + (k : Int) - 500) = (k : Int) := by omega
    clear hrow HR hap hI r0 r1 hin
    go_enter Tryz.func38, Tryz.ntmps38
    go_wp2_with (go_at_call 49; refine (specIn_any _ _ _ _).mono ?_; rintro e w' ⟨rfl, rfl⟩; have hi2 := hI'.out)
    refine bodyPost_ret (v := .tuple #[.agg #[.int .i64 a, .int .i64 p], .bool true]) (by simp [results, Tryz.results38, go_sem]) rfl ⟨by rw [hE.out]; rfl, ?_⟩
    exact (((Below.refl _ _).alloc (Nat.le_refl _) _).alloc (by simp) _)
  · have hI : inB port 500 (500 + (es.length : Int) - 1) = false := by unfold inB; simp; omega
    have hE : Hid (endI es port = none) := by show endI es port = _; unfold endI; rw [if_neg hin]
    clear hin HR
    go_enter Tryz.func38, Tryz.ntmps38
    go_wp2_with (go_at_call 49; refine (specIn_any _ _ _ _).mono ?_; rintro e w' ⟨rfl, rfl⟩)
    refine bodyPost_ret (v := .tuple #[.agg #[.int .i64 0, .int .i64 0], .bool false]) (by simp [results, Tryz.results38, go_sem]) rfl ⟨by rw [hE.out]; rfl, ?_⟩
    exact (((Below.refl _ _).alloc (Nat.le_refl _) _).alloc (by simp) _)

set_option maxRecDepth 100000 in
set_option maxHeartbeats 800000 in
/-- MapPut of what is no table, or of no end inside: nothing. -/
theorem specMapPut_not (v : Value) (es : List (Int × Int)) (a p : Int) (w : World) (hn : es.length ≤ 4194304) (ht : TabAt w v es) (hno : (mapB es && insB a p) = false) :
    Calls Tryz.prog 115 #[.agg #[v], .agg #[.int .i64 a, .int .i64 p]] w fun e w' => e = .returned (.tuple #[.agg #[.slice none 0 0], .int .i64 0]) ∧ Below w.heap.size w w' := by
  have HT := Lib.hid ht
  obtain ⟨ad, cap, rfl, hcap, hr⟩ := ht
  have hM : Hid (∀ w, TabAt w (.slice ad es.length cap) es → Calls Tryz.prog 42 #[.agg #[.slice ad es.length cap]] w fun e w' => e = .returned (.bool (mapB es)) ∧ Below w.heap.size w w') := fun w h => specMapOk_any _ es w hn h
  clear hr
  by_cases hm : mapB es = true
  · have hi : insB a p = false := by rw [hm] at hno; simpa using hno
    rw [hm] at hM
    clear hno hm
    go_enter Tryz.func115, Tryz.ntmps115
    go_wp2_with (first
      | (go_at_call 42; refine (hM.out _ (HT.out.below ((((Below.refl _ _).alloc (Nat.le_refl _) _).alloc (by simp) _).alloc (by simp; omega) _))).mono ?_; rintro e w1 ⟨rfl, b1⟩; obtain ⟨cA, cB, cC, b01, z1⟩ := cell_three b1; have e0 := (cB 0).1; have e1 := (cB 1).1; have r0 := (cC 0).1; have g0 := (cC 0).2; simp at e0 e1 r0; clear cA cB cC)
      | (go_at_call 14; refine (specInside_any a p _).mono ?_; rintro e w2 ⟨rfl, b2⟩; have r2 : w2.cell? ⟨w.heap.size + 1 + 1, 0, none⟩ = some (.slice none 0 0) := (by rw [b2.cell (by simp; omega)]; exact r0); have g2 : w2.frozen? ⟨w.heap.size + 1 + 1, 0, none⟩ = false := (by rw [b2.frozen (by simp; omega)]; exact g0)))
    refine bodyPost_ret (v := .tuple #[.agg #[.slice none 0 0], .int .i64 0]) (by simp [results, Tryz.results115, go_sem, World.cell?_setCell_same _ _ _ r2]) rfl ⟨rfl, ?_⟩
    exact (b01.trans (b2.mono (by omega))).setCell (by simp; omega) _
  · have hm' : mapB es = false := by simpa using hm
    rw [hm'] at hM
    clear hno hm hm'
    go_enter Tryz.func115, Tryz.ntmps115
    go_wp2_with (go_at_call 42; refine (hM.out _ (HT.out.below ((((Below.refl _ _).alloc (Nat.le_refl _) _).alloc (by simp) _).alloc (by simp; omega) _))).mono ?_; rintro e w1 ⟨rfl, b1⟩; obtain ⟨cA, cB, cC, b01, z1⟩ := cell_three b1; have r0 := (cC 0).1; have g0 := (cC 0).2; simp at r0; clear cA cB cC)
    refine bodyPost_ret (v := .tuple #[.agg #[.slice none 0 0], .int .i64 0]) (by simp [results, Tryz.results115, go_sem, World.cell?_setCell_same _ _ _ r0]) rfl ⟨rfl, ?_⟩
    exact b01.setCell (by simp; omega) _

set_option maxRecDepth 100000 in
set_option maxHeartbeats 1600000 in
/-- MapPut of a table and an end inside: the table with the end, in memory of the call's own, and its port. -/
theorem specMapPut_ok (v : Value) (es : List (Int × Int)) (a p : Int) (w : World) (hn : es.length ≤ 4194304) (ht : TabAt w v es) (hm : mapB es = true) (hi : insB a p = true) :
    Calls Tryz.prog 115 #[.agg #[v], .agg #[.int .i64 a, .int .i64 p]] w fun e w' => ∃ g c, e = .returned (.tuple #[.agg #[.slice (some g) (putE es (a, p)).1.length c], .int .i64 (putE es (a, p)).2]) ∧ OwnTab w' w.heap.size (.slice (some g) (putE es (a, p)).1.length c) (putE es (a, p)).1 ∧ Below w.heap.size w w' := by
  have HT := Lib.hid ht
  obtain ⟨ad, cap, rfl, hcap, hr⟩ := ht
  have hM : Hid (∀ w, TabAt w (.slice ad es.length cap) es → Calls Tryz.prog 42 #[.agg #[.slice ad es.length cap]] w fun e w' => e = .returned (.bool true) ∧ Below w.heap.size w w') := fun w h => by rw [← hm]; exact specMapOk_any _ es w hn h
  obtain ⟨us, hus⟩ : ∃ us, us = (putE es (a, p)).1 := ⟨_, rfl⟩
  obtain ⟨q, hq⟩ : ∃ q, q = (putE es (a, p)).2 := ⟨_, rfl⟩
  have hP : Hid (∀ (B : Nat) (ad : Addr) (cap : Nat) (w : World), B ≤ w.heap.size → OwnTab w B (.slice (some ad) es.length cap) es → Calls Tryz.prog 39 #[.agg #[.slice (some ad) es.length cap], .agg #[.int .i64 a, .int .i64 p]] w fun e w' => ∃ g c, e = .returned (.tuple #[.agg #[.slice (some g) us.length c], .int .i64 q]) ∧ OwnTab w' B (.slice (some g) us.length c) us ∧ Below w.heap.size w w') := fun B ad cap w h1 h2 => by rw [hus, hq]; exact specPut_any B ad cap es a p w hn h1 h2
  rw [← hus, ← hq]
  clear hr hm hus hq
  go_enter Tryz.func115, Tryz.ntmps115
  go_upto_region 3 with (first
    | (go_at_call 42; refine (hM.out _ (HT.out.below ((((Below.refl _ _).alloc (Nat.le_refl _) _).alloc (by simp) _).alloc (by simp; omega) _))).mono ?_; rintro e w1 ⟨rfl, b1⟩; obtain ⟨cA, cB, cC, b01, z1⟩ := cell_three b1; have t0 := (cA 0).1; have e0 := (cB 0).1; have e1 := (cB 1).1; have r0 := (cC 0).1; have g0 := (cC 0).2; simp at t0 e0 e1 r0; clear cA cB cC b1)
    | (go_at_call 14; refine (specInside_any a p _).mono ?_; rintro e w2 ⟨rfl, b2⟩; have t2 : w2.cell? ⟨w.heap.size, 0, none⟩ = some (.slice ad es.length cap) := (by rw [b2.cell (by simp; omega)]; exact t0); have e20 : w2.cell? ⟨w.heap.size + 1, 0, none⟩ = some (.int .i64 a) := (by rw [b2.cell (by simp; omega)]; exact e0); have e21 : w2.cell? ⟨w.heap.size + 1, 1, none⟩ = some (.int .i64 p) := (by rw [b2.cell (by simp; omega)]; exact e1); have r2 : w2.cell? ⟨w.heap.size + 1 + 1, 0, none⟩ = some (.slice none 0 0) := (by rw [b2.cell (by simp; omega)]; exact r0); have g2 : w2.frozen? ⟨w.heap.size + 1 + 1, 0, none⟩ = false := (by rw [b2.frozen (by simp; omega)]; exact g0)))
  have b02 : Hid (Below w.heap.size w w2) := b01.trans (b2.mono (by omega))
  have z2 : w.heap.size + 3 ≤ w2.heap.size := Nat.le_trans z1 b2.size
  clear b2 b01 t0 e0 e1 r0 g0 z1
  have hC : Hid (∀ wx, TabAt wx (.slice ad es.length cap) es → Calls Tryz.prog 81 #[.agg #[.slice ad es.length cap]] wx fun e w' => ∃ g c, e = .returned (.agg #[.slice (some g) es.length c]) ∧ OwnTab w' wx.heap.size (.slice (some g) es.length c) es ∧ Below wx.heap.size wx w') := fun wx h => specCopy_any _ es wx hn h
  go_region_with (first
    | (go_at_call 81; refine (hC.out _ (HT.out.below b02.out.drew)).mono ?_; rintro e w3 ⟨g3, c3, rfl, o3, b3⟩; have O3 := Lib.hid o3; have B3 : Hid (Below w2.heap.size w2 w3) := ((Below.refl _ _).drew).trans b3; clear o3 b3; have e30 : w3.cell? ⟨w.heap.size + 1, 0, none⟩ = some (.int .i64 a) := (by rw [B3.out.cell (by simp; omega)]; exact e20); have e31 : w3.cell? ⟨w.heap.size + 1, 1, none⟩ = some (.int .i64 p) := (by rw [B3.out.cell (by simp; omega)]; exact e21); have r3 : w3.cell? ⟨w.heap.size + 1 + 1, 0, none⟩ = some (.slice none 0 0) := (by rw [B3.out.cell (by simp; omega)]; exact r2); have g03 : w3.frozen? ⟨w.heap.size + 1 + 1, 0, none⟩ = false := (by rw [B3.out.frozen (by simp; omega)]; exact g2))
    | (go_at_call 39; refine (hP.out (w.heap.size + 3) _ _ _ (by have := B3.out.size; omega) (O3.out.mono (by simp; omega))).mono ?_; rintro e w4 ⟨g4, c4, rfl, o4, b4⟩; have O4 := Lib.hid o4; have B4 : Hid (Below w3.heap.size w3 w4) := b4; clear o4 b4; have z3 := B3.out.size; have r4 : w4.cell? ⟨w.heap.size + 1 + 1, 0, none⟩ = some (.slice none 0 0) := (by rw [B4.out.cell (by simp; omega)]; exact r3); have g04 : w4.frozen? ⟨w.heap.size + 1 + 1, 0, none⟩ = false := (by rw [B4.out.frozen (by simp; omega)]; exact g03)))
  all_goals
    go_wp2_with fail
    refine bodyPost_ret (v := .tuple #[.agg #[.slice (some g4) us.length c4], .int .i64 q]) (by simp [results, Tryz.results115, go_sem, World.cell?_setCell_same _ _ _ r4]) rfl ⟨_, _, rfl, ?_, ?_⟩
    · have := ownsRow_setCell_below (a := ⟨w.heap.size + 1 + 1, 0, none⟩) O4.out (by simp) (.slice (some g4) us.length c4)
      exact OwnTab.mono (B := w.heap.size + 3) this (by omega)
    · exact ((b02.out.trans (B3.out.mono (by omega))).trans (B4.out.mono (by omega))).setCell (by simp; omega) _

end Go.Proofs.YtgfkiljkpkfapaaGreatDoor
