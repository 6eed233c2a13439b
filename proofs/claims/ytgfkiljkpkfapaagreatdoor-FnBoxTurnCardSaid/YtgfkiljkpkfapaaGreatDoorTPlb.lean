/- Whether a stream's lines give no port, and whether lines may have gone inside, as the specification asks. Conditions: at most 2^22 ends; texts of at most 2^21 bytes. (Several texts, joined: SLin, SBak, Cell2, SRwr, SLine, Vals, PutE, LineE, Box, SStr, BoxP, SNear.) -/
import Derived.Test.YtgfkiljkpkfapaaGreatDoorGen
import Derived.Test.YtgfkiljkpkfapaaGreatDoorTPla
import Derived.Test.YtgfkiljkpkfapaaGreatDoorTabs
import Derived.Test.YtgfkiljkpkfapaaGreatDoorFresh
import Derived.Test.YtgfkiljkpkfapaaGreatDoorOwnEnds
import Derived.Deep.RegionHeld3
import Derived.Deep.DeepCutAuto
import Derived.Test.YtgfkiljkpkfapaaGreatDoorBoxMk
import Derived.Test.YtgfkiljkpkfapaaGreatDoorSMap
import Derived.Test.YtgfkiljkpkfapaaGreatDoorRdV
import Derived.Lib.QuietBelow

/- LinOk of the specification, at every text. Condition: the text has at most 2^48 bytes. -/
namespace Go.Proofs.YtgfkiljkpkfapaaGreatDoor
open Go.RowKit

set_option maxRecDepth 100000 in
set_option maxHeartbeats 800000 in
theorem specByte_any (c : UInt8) (w : World) :
    Calls Tryz.prog 50 #[.int .u8 (c.toNat : Int)] w fun e w' => e = .returned (.bool (byteB c)) ∧ w = w' := by
  by_cases h1 : 97 ≤ c.toNat <;> by_cases h2 : c.toNat ≤ 122 <;> by_cases h3 : 48 ≤ c.toNat <;> by_cases h4 : c.toNat ≤ 57 <;> by_cases h5 : c.toNat = 32 <;>
    first
    | (exfalso; omega)
    | (have h6 : ((c.toNat : Int) == 32) = decide (c.toNat = 32) := by (rw [Bool.eq_iff_iff]; simp; omega)
       simp only [h5, decide_true, decide_false] at h6
       go_enter Tryz.func50, Tryz.ntmps50
       go_wp2
       go_ret
       exact ⟨by (simp [byteB, h1, h2, h3, h4, h5] <;> omega), rfl⟩)

set_option maxRecDepth 100000 in
set_option maxHeartbeats 800000 in
theorem specLin_any (s : ByteArray) (w : World) (hs : s.size ≤ 281474976710656) :
    Calls Tryz.prog 124 #[.string s] w fun e w' => e = .returned (.bool (linB s.data.toList)) ∧ w = w' := by
  by_cases h16 : 16 < s.size
  · go_enter Tryz.func124, Tryz.ntmps124
    go_wp2_with fail
    go_ret
    exact ⟨ret_bool (by unfold linB; rw [len_list, decide_eq_false (by omega)]; rfl), rfl⟩
  · go_enter Tryz.func124, Tryz.ntmps124
    go_wp2_with fail
    go_loop [3] (fun i => ∃ k : Nat, k ≤ s.size ∧ i = .int .i64 k ∧ (∀ c ∈ s.data.toList.take k, byteB c = true)) (fun i => s.size - (intOf i).toNat)
    case atStart => exact ⟨0, Nat.zero_le _, rfl, by simp⟩
    case round =>
      obtain ⟨k, hk, rfl, hd⟩ := hrel
      have HD := Lib.hid hd
      clear hd
      by_cases hlt : k < s.size
      · have HT : Hid (s.data.toList.take (k + 1) = s.data.toList.take k ++ [s[k]]) := take_snoc s k hlt
        by_cases hb : byteB s[k] = true
        · have HB := Lib.hid hb
          go_wp2_with (go_at_call 50; refine (specByte_any _ _).mono ?_; rintro e w' ⟨rfl, rfl⟩)
          go_round
          case rel =>
            refine ⟨k + 1, by omega, by go_num, ?_⟩
            rw [HT.out]; intro c hc
            rcases List.mem_append.1 hc with hc | hc
            · exact HD.out c hc
            · simp at hc; subst hc; exact HB.out
          case measure => simp [intOf]; omega
        · have HB : Hid (linB s.data.toList = false) := by
            unfold linB
            have : s.data.toList.all byteB = false := by
              rw [List.all_eq_false]; exact ⟨s[k], mem_at s k hlt, hb⟩
            show (_ && _) = false
            rw [this]; simp
          go_wp2_with (go_at_call 50; refine (specByte_any _ _).mono ?_; rintro e w' ⟨rfl, rfl⟩)
          go_ret
          exact ⟨ret_bool HB.out.symm, rfl⟩
      · have HL : Hid (linB s.data.toList = true) := by
          have he : s.data.toList.take k = s.data.toList := List.take_of_length_le (by rw [len_list]; omega)
          show (_ && _) = true
          rw [len_list, decide_eq_true (by omega), ← he, List.all_eq_true.2 HD.out]; rfl
        go_wp2_with fail
        go_ret
        exact ⟨ret_bool HL.out.symm, rfl⟩

end Go.Proofs.YtgfkiljkpkfapaaGreatDoor

/- BakLine of the specification: a line as it goes inside, by a table. Conditions: at most 2^22 ends; the text has at most 2^21 bytes. -/
namespace Go.Proofs.YtgfkiljkpkfapaaGreatDoor
open Go.RowKit

/-- A line as it goes inside; nothing of what is no table or no line. -/
def backE (es : List (Int × Int)) (l : List UInt8) : List UInt8 := match boxE l with | none => l | some p => match endI es p with | none => l | some (a, q) => lpL a q
def bakE (es : List (Int × Int)) (l : List UInt8) : List UInt8 := if mapB es = true ∧ linB l = true then backE es l else []
theorem str_same (s : ByteArray) : (⟨s.data.toList.toArray⟩ : ByteArray) = s := Lib.mk_data s
theorem box1 {w w1 : World} {v : Value} {t : TypeId} (hb : Below (w.alloc (.cells #[v] t)).heap.size (w.alloc (.cells #[v] t)) w1) : w1.cell? ⟨w.heap.size, 0, none⟩ = some v := by
  rw [hb.cell (p := ⟨w.heap.size, 0, none⟩) (by simp), (cell_new w #[v] t 0).1]; rfl

set_option maxRecDepth 100000 in
set_option maxHeartbeats 1600000 in
theorem specBack_any (v : Value) (es : List (Int × Int)) (s : ByteArray) (w : World) (hn : es.length ≤ 4194304) (hs : s.size ≤ 2097152) (ht : TabAt w v es) :
    Calls Tryz.prog 125 #[.agg #[v], .string s] w fun e w' => e = .returned (.string ⟨(backE es s.data.toList).toArray⟩) ∧ Below w.heap.size w w' := by
  have HT := Lib.hid ht
  obtain ⟨ad, cap, rfl, hcap, hr⟩ := ht
  clear hr hcap
  rcases hb : boxE s.data.toList with _ | p
  · have HB : Hid (∀ w, Calls Tryz.prog 142 #[.string s] w fun e w' => e = .returned (.tuple #[.int .i64 0, .bool false]) ∧ Below w.heap.size w w') := fun w => by have := specBox_any s w hs; rw [hb] at this; exact this
    have HE : Hid (backE es s.data.toList = s.data.toList) := by show backE _ _ = _; unfold backE; rw [hb]
    clear hb
    go_enter Tryz.func125, Tryz.ntmps125
    go_wp2_with fail
    (go_at_call 142; refine (HB.out _).mono ?_; rintro e w1 ⟨rfl, b1⟩)
    go_wp2_with fail
    go_ret
    exact ⟨by rw [HE.out, str_same]; rfl, below_box b1⟩
  · have HB : Hid (∀ w, Calls Tryz.prog 142 #[.string s] w fun e w' => e = .returned (.tuple #[.int .i64 p, .bool true]) ∧ Below w.heap.size w w') := fun w => by have := specBox_any s w hs; rw [hb] at this; exact this
    rcases hi : endI es p with _ | ⟨a, q⟩
    · have HE : Hid (backE es s.data.toList = s.data.toList) := by show backE _ _ = _; unfold backE; rw [hb]; simp only [hi]
      have HM : Hid (∀ w, TabAt w (.slice ad es.length cap) es → Calls Tryz.prog 38 #[.agg #[.slice ad es.length cap], .int .i64 p] w fun e w' => e = .returned (.tuple #[.agg #[.int .i64 0, .int .i64 0], .bool false]) ∧ Below w.heap.size w w') := fun w h => by have := specMapEnd_any _ es p w hn h; rw [hi] at this; exact this
      clear hb hi
      go_enter Tryz.func125, Tryz.ntmps125
      go_wp2_with fail
      (go_at_call 142; refine (HB.out _).mono ?_; rintro e w1 ⟨rfl, b1⟩)
      have c1 := box1 b1
      have B1 := Lib.hid (below_box b1)
      clear b1
      go_wp2_with fail
      (go_at_call 38; refine (HM.out _ (HT.out.below B1.out)).mono ?_; rintro e w2 ⟨rfl, b2⟩)
      have B2 := Lib.hid (B1.out.trans (b2.mono B1.out.size))
      clear b2
      go_wp2_with fail
      go_ret
      exact ⟨by rw [HE.out, str_same]; rfl, B2.out.alloc B2.out.size _⟩
    · have HE : Hid (backE es s.data.toList = lpL a q) := by show backE _ _ = _; unfold backE; rw [hb]; simp only [hi]
      have HM : Hid (∀ w, TabAt w (.slice ad es.length cap) es → Calls Tryz.prog 38 #[.agg #[.slice ad es.length cap], .int .i64 p] w fun e w' => e = .returned (.tuple #[.agg #[.int .i64 a, .int .i64 q], .bool true]) ∧ Below w.heap.size w w') := fun w h => by have := specMapEnd_any _ es p w hn h; rw [hi] at this; exact this
      clear hb hi
      go_enter Tryz.func125, Tryz.ntmps125
      go_wp2_with fail
      (go_at_call 142; refine (HB.out _).mono ?_; rintro e w1 ⟨rfl, b1⟩)
      have c1 := box1 b1
      have B1 := Lib.hid (below_box b1)
      clear b1
      go_wp2_with fail
      (go_at_call 38; refine (HM.out _ (HT.out.below B1.out)).mono ?_; rintro e w2 ⟨rfl, b2⟩)
      have B2 := Lib.hid (B1.out.trans (b2.mono B1.out.size))
      have B3 := Lib.hid (B2.out.alloc B2.out.size (.cells #[.int .i64 a, .int .i64 q] 31))
      clear b2
      go_wp2_with fail
      (go_at_call 143; refine (specLinPort_any a q _).mono ?_; rintro e w3 ⟨rfl, b3⟩)
      go_wp2_with fail
      go_ret
      exact ⟨by rw [HE.out]; rfl, B3.out.trans (b3.mono B3.out.size)⟩

end Go.Proofs.YtgfkiljkpkfapaaGreatDoor

/- The cells of two new blocks, and of worlds in which they stay. No condition. -/
namespace Go.Proofs.YtgfkiljkpkfapaaGreatDoor
open Go.RowKit

theorem cell_two {w w1 : World} {ca cb : Array Value} {ta tb : TypeId}
    (h : Below ((w.alloc (.cells ca ta)).alloc (.cells cb tb)).heap.size ((w.alloc (.cells ca ta)).alloc (.cells cb tb)) w1) :
    (∀ i, w1.cell? ⟨w.heap.size, i, none⟩ = ca[i]? ∧ w1.frozen? ⟨w.heap.size, i, none⟩ = false) ∧ (∀ i, w1.cell? ⟨w.heap.size + 1, i, none⟩ = cb[i]? ∧ w1.frozen? ⟨w.heap.size + 1, i, none⟩ = false) ∧
      Below w.heap.size w w1 ∧ w.heap.size + 2 ≤ w1.heap.size := by
  have hs : ((w.alloc (.cells ca ta)).alloc (.cells cb tb)).heap.size = w.heap.size + 2 := by simp
  have h1 : (w.alloc (.cells ca ta)).heap.size = w.heap.size + 1 := by simp
  rw [hs] at h
  have n1 := fun i => cell_new w ca ta i
  have n2 := fun i => cell_new (w.alloc (.cells ca ta)) cb tb i
  rw [h1] at n2
  refine ⟨fun i => ?_, fun i => ?_, ?_, by have := h.size; rw [hs] at this; exact this⟩
  · rw [h.cell (p := ⟨w.heap.size, i, none⟩) (by simp), h.frozen (p := ⟨w.heap.size, i, none⟩) (by simp), cell_alloc_lt (by simp), frozen_alloc_lt (by simp)]
    exact n1 i
  · rw [h.cell (p := ⟨w.heap.size + 1, i, none⟩) (by simp), h.frozen (p := ⟨w.heap.size + 1, i, none⟩) (by simp)]
    exact n2 i
  · exact (((Below.refl _ _).alloc (Nat.le_refl _) _).alloc (by simp) _).trans (h.mono (by omega))

end Go.Proofs.YtgfkiljkpkfapaaGreatDoor

/- l3Line of the specification: a line as it goes outside, and the table then. Conditions: at most 2^22 ends; the text has at most 2^21 bytes. -/
namespace Go.Proofs.YtgfkiljkpkfapaaGreatDoor
open Go.RowKit Go.Sort

def noneL : List UInt8 := [110, 111, 110, 101]
/-- A line as it goes outside, and the table then. -/
def lineE (es : List (Int × Int)) (l : List UInt8) : List (Int × Int) × List UInt8 := match saysE l with | none => (es, l) | some e => if (putE es e).2 = 0 then ((putE es e).1, noneL) else ((putE es e).1, lpL 50 (putE es e).2)

theorem specPut_new_or (ad : Addr) (cap : Nat) (es : List (Int × Int)) (a p : Int) (w : World) (hn : es.length ≤ 4194304) (ht : TabAt w (.slice (some ad) es.length cap) es) :
    Calls Tryz.prog 39 #[.agg #[.slice (some ad) es.length cap], .agg #[.int .i64 a, .int .i64 p]] w fun e w' => ∃ g c, e = .returned (.tuple #[.agg #[.slice (some g) (putE es (a, p)).1.length c], .int .i64 (putE es (a, p)).2]) ∧ ((g = ad ∧ c = cap ∧ (putE es (a, p)).1 = es) ∨ OwnTab w' w.heap.size (.slice (some g) (putE es (a, p)).1.length c) (putE es (a, p)).1) ∧ Below w.heap.size w w' := by
  by_cases h : 0 < portI es (a, p)
  · rw [show putE es (a, p) = (es, portI es (a, p)) from if_pos h]
    refine (specPut_has ad cap es a p w hn ht h).mono ?_
    rintro e w' ⟨rfl, hb⟩
    exact ⟨_, _, rfl, .inl ⟨rfl, rfl, rfl⟩, hb⟩
  · have h0 := portI_zero h
    by_cases h6 : es.length = 6
    · rw [show putE es (a, p) = (es, 0) from by unfold putE; rw [if_neg h, if_pos h6]]
      refine (specPut_full ad cap es a p w hn ht h0 h6).mono ?_
      rintro e w' ⟨rfl, hb⟩
      exact ⟨_, _, rfl, .inl ⟨rfl, rfl, rfl⟩, hb⟩
    · rw [show putE es (a, p) = (es ++ [(a, p)], 500 + (es.length : Int)) from by unfold putE; rw [if_neg h, if_neg h6]]
      refine (specPut_new ad cap es a p w hn ht h0 h6).mono ?_
      rintro e w' ⟨g, c, rfl, h1, hb⟩
      exact ⟨g, c, by simp, .inr (by simpa using h1), hb⟩

end Go.Proofs.YtgfkiljkpkfapaaGreatDoor

/- StrLines and StrOk of the specification, at every text. Condition: the text has at most 2^21 bytes. -/
namespace Go.Proofs.YtgfkiljkpkfapaaGreatDoor
open Go.RowKit

set_option maxRecDepth 100000 in
set_option maxHeartbeats 800000 in
theorem specLines_any (s : ByteArray) (w : World) (hs : s.size ≤ 2097152) :
    Calls Tryz.prog 123 #[.string s] w fun e w' => ∃ v, e = .returned (.tuple #[v, .string ⟨(restL s.data.toList).toArray⟩]) ∧ w'.ownsRow w.heap.size 9 1 v (linesL s.data.toList).length ((linesL s.data.toList).map strV) ∧ Below w.heap.size w w' := by
  obtain ⟨i0, hi, hz0, hz1, hz2⟩ := info_parts infoStr
  go_enter Tryz.func123, Tryz.ntmps123
  go_wp2
  go_loopw [4, 5, 6] (fun v f i wr => ∃ (k m : Nat) (W0 : List (List UInt8) × List UInt8), k ≤ s.size ∧ i = .int .i64 k ∧ f = .int .i64 m ∧ m + W0.2.length = k ∧ W0 = linesF (s.data.toList.take k) ∧ wr.ownsRow w.heap.size 9 1 v W0.1.length (W0.1.map strV) ∧ Below w.heap.size w wr)
    (fun _ _ i _ => s.size - (intOf i).toNat)
  case atStart => exact ⟨0, 0, ([], []), Nat.zero_le _, rfl, rfl, rfl, rfl, World.ownsRow_made w #[] 0 (Nat.le_refl _) (Nat.zero_le _) rfl, (Below.refl _ _).alloc (Nat.le_refl _) _⟩
  case round =>
    obtain ⟨k, m, W0, hk, rfl, rfl, hm, hW, hown, hb⟩ := hrel
    have HW := Lib.hid hW
    have HM := Lib.hid hm
    have hlen : W0.1.length ≤ k := by
      have := lines_len (s.data.toList.take k)
      rw [hW]; simp [linesL] at this ⊢; omega
    have hmk : m ≤ k := by omega
    have hbs := hb.size
    clear hW hm
    by_cases hlt : k < s.size
    · have hsn : Hid (linesF (s.data.toList.take (k + 1)) = stl W0 s[k]) := by
        show linesF (s.data.toList.take (k + 1)) = stl W0 s[k]
        rw [take_snoc s k hlt, linesF_snoc, HW.out]
      by_cases h59 : s[k] = 59
      · have ht : (((s[k]).toNat : Int) == 59) = true := by rw [h59]; rfl
        have H59 : Hid (s[k] = 59) := h59
        have HX : Hid (s.extract m k = ⟨W0.2.toArray⟩) := by
          show s.extract m k = _
          have h1 := rest_drop (s.data.toList.take k)
          rw [show restL (s.data.toList.take k) = W0.2 by rw [HW.out]; rfl] at h1
          have h2 : (s.data.toList.take k).length - W0.2.length = m := by have := HM.out; simp; omega
          rw [h2] at h1
          rw [ext_list, ← h1]
        clear h59
        go_wp2_with (at_builtin; rw [HX.out]; refine wpList_append_own _ rfl (.tmp 18) (.tmp 23) 53 rfl w.heap.size 9 i0 (.string ⟨#[]⟩) 1 16 Tryz.underlying53 hi hz0 hz1 hz2 rfl (by decide) _ _ _ rfl (hown.alloc _) ⟨wr.heap.size, 0, none⟩ 1 1 [.string ⟨W0.2.toArray⟩] rfl rfl ?c1 ?c2 ?c3 ?c4 ?c5 ?_)
        case c1 =>
          intro j u hj
          match j, hj with
          | 0, hj => simp at hj; subst hj; simp [Addr.add]
        case c2 => intro u hu; simp at hu; subst hu; rfl
        case c3 => unfold maxLen; omega
        case c4 => omega
        case c5 => simp; omega
        · intro v' w1 hown' hgrow _
          go_wp2
          go_roundw
          case rel =>
            refine ⟨k + 1, k + 1, stl W0 s[k], by omega, by go_num, by go_num, ?_, hsn.out.symm, ?_, ?_⟩
            · rw [stl, if_pos H59.out]; simp
            · rw [stl, if_pos H59.out]; simpa [strV] using hown'
            · exact (hb.alloc hbs _).grown hgrow (by simp; omega) (fun k hk => (hown.lt k hk).1)
          case measure => simp [intOf]; omega
      · have ht : (((s[k]).toNat : Int) == 59) = false := by
          have e59 : (59 : UInt8).toNat = 59 := rfl
          simp; intro e; exact h59 (UInt8.toNat_inj.1 (by omega))
        have H59 : Hid (¬ s[k] = 59) := h59
        clear h59
        go_wp2
        go_roundw
        case rel =>
          refine ⟨k + 1, m, stl W0 s[k], by omega, by go_num, rfl, ?_, hsn.out.symm, ?_, hb⟩
          · have := HM.out
            rw [stl, if_neg H59.out]; simp; omega
          · rw [stl, if_neg H59.out]; exact hown
        case measure => simp [intOf]; omega
    · have HK : Hid (s.data.toList.take k = s.data.toList) := List.take_of_length_le (by rw [len_list]; omega)
      have HX : Hid (s.extract m s.size = ⟨(restL s.data.toList).toArray⟩) := by
        show s.extract m s.size = _
        have h1 := rest_drop s.data.toList
        have h0 : restL s.data.toList = W0.2 := by rw [HW.out, HK.out]; rfl
        have h2 : s.data.toList.length - (restL s.data.toList).length = m := by have := HM.out; rw [h0, len_list]; omega
        rw [h2] at h1
        rw [ext_list, List.take_of_length_le (by rw [len_list]; omega), ← h1]
      have HE : Hid (linesL s.data.toList = W0.1) := by
        show linesL s.data.toList = W0.1
        rw [HW.out, HK.out]; rfl
      have hm1 : (0 : Int) ≤ (m : Int) := by omega
      have hm2 : (m : Int) ≤ (s.size : Int) := by omega
      go_wp2_with fail
      go_region
      go_wp2
      go_ret2
      exact ⟨_, by rw [HX.out]; rfl, by rw [HE.out]; exact hown, hb.drew⟩

set_option maxRecDepth 100000 in
set_option maxHeartbeats 800000 in
theorem specStr_any (s : ByteArray) (w : World) (hs : s.size ≤ 2097152) :
    Calls Tryz.prog 86 #[.string s] w fun e w' => e = .returned (.bool (strB s.data.toList)) ∧ Below w.heap.size w w' := by
  by_cases h120 : 120 < s.size
  · go_enter Tryz.func86, Tryz.ntmps86
    go_wp2_with fail
    go_ret
    exact ⟨ret_bool (by unfold strB; rw [len_list, decide_eq_false (by omega)]; rfl), Below.refl _ _⟩
  · go_enter Tryz.func86, Tryz.ntmps86
    go_wp2_with (go_at_call 123; refine (specLines_any _ _ hs).mono ?_; rintro e w1 ⟨v, rfl, own1, b1⟩)
    obtain ⟨a1, cap1, rfl⟩ := own_form own1
    have hll := lines_len s.data.toList
    rw [len_list] at hll
    have sR : (⟨(restL s.data.toList).toArray⟩ : ByteArray).size ≤ 281474976710656 := by simp [ByteArray.size]; omega
    go_loop [5] (fun i => ∃ k : Nat, k ≤ (linesL s.data.toList).length ∧ i = .int .i64 k ∧ (∀ x ∈ (linesL s.data.toList).take k, linB x = true)) (fun i => (linesL s.data.toList).length - (intOf i).toNat)
    case atStart => exact ⟨0, Nat.zero_le _, rfl, by simp⟩
    case round =>
      obtain ⟨k, hk, rfl, hd⟩ := hrel
      have HD := Lib.hid hd
      clear hd
      by_cases hlt : k < (linesL s.data.toList).length
      · obtain ⟨g, cap, e1, gB, gl, hcap, hcells⟩ := own_cells own1 (by omega)
        obtain ⟨x, hx⟩ : ∃ x, x = (linesL s.data.toList)[k] := ⟨_, rfl⟩
        have hcell : w1.cell? ⟨g, k, none⟩ = some (strV x) := by
          rw [(hcells k (by simpa using hlt)).1]; simp [hx]
        have hxl : x.length ≤ s.size := by rw [← len_list]; exact line_len (by rw [hx]; exact List.getElem_mem _)
        have sX : (⟨x.toArray⟩ : ByteArray).size ≤ 281474976710656 := by simp [ByteArray.size]; omega
        simp at e1
        obtain ⟨rfl, rfl⟩ := e1
        have HX : Hid (x = (linesL s.data.toList)[k]) := hx
        clear hx hcells hxl
        unfold strV at hcell
        by_cases hb : linB x = true
        · have HB := Lib.hid hb
          go_wp2_with (go_at_call 124; refine (specLin_any _ _ sX).mono ?_; rintro e w' ⟨rfl, rfl⟩)
          go_round
          case rel =>
            refine ⟨k + 1, by omega, by go_num, ?_⟩
            rw [List.take_succ_eq_append_getElem hlt, ← HX.out]; intro y hy
            rcases List.mem_append.1 hy with hy | hy
            · exact HD.out y hy
            · simp at hy; subst hy; exact HB.out
          case measure => simp [intOf]; omega
        · have HB : Hid (strB s.data.toList = false) := by
            have : (linesL s.data.toList).all linB = false := by
              rw [List.all_eq_false]; exact ⟨x, by rw [HX.out]; exact List.getElem_mem _, hb⟩
            show (_ && _ && _) = false
            rw [this]; simp
          go_wp2_with (go_at_call 124; refine (specLin_any _ _ sX).mono ?_; rintro e w' ⟨rfl, rfl⟩)
          go_ret
          exact ⟨ret_bool HB.out.symm, b1⟩
      · have HS : Hid (strB s.data.toList = linB (restL s.data.toList)) := by
          have he : (linesL s.data.toList).take k = linesL s.data.toList := List.take_of_length_le (by omega)
          show (_ && _ && _) = _
          rw [len_list, decide_eq_true (by omega), ← he, List.all_eq_true.2 HD.out]; simp
        go_wp2_with (go_at_call 124; refine (specLin_any _ _ sR).mono ?_; rintro e w' ⟨rfl, rfl⟩)
        go_ret
        exact ⟨ret_bool (by rw [HS.out]), b1⟩

end Go.Proofs.YtgfkiljkpkfapaaGreatDoor

/- The entries that a table's two maps have: an end's first port, and a port's end. No condition. -/
namespace Go.Proofs.YtgfkiljkpkfapaaGreatDoor
open Go.RowKit

/-- An end as a value; a port as a value. -/
def eV (e : Int × Int) : Value := .agg #[.int .i64 e.1, .int .i64 e.2]
def pV (k : Nat) : Value := .int .i64 (500 + (k : Int))
theorem eV_inj {a b : Int × Int} (h : eV a = eV b) : a = b := by
  obtain ⟨a1, a2⟩ := a
  obtain ⟨b1, b2⟩ := b
  simp [eV] at h
  exact Prod.ext h.1 h.2
/-- The k-th end comes with its port, if it did not stand ahead. -/
def valAt (es : List (Int × Int)) (k : Nat) : Option (Value × Value) := if es.getD k (0, 0) ∈ es.take k then none else some (eV (es.getD k (0, 0)), pV k)
def valsL (es : List (Int × Int)) : List (Value × Value) := (List.range es.length).filterMap (valAt es)
def keysL (es : List (Int × Int)) : List (Value × Value) := (List.range es.length).map fun k => (pV k, eV (es.getD k (0, 0)))

theorem getD_app {es : List (Int × Int)} {e : Int × Int} {k : Nat} (h : k < es.length) : (es ++ [e]).getD k (0, 0) = es.getD k (0, 0) := by
  simp [List.getD, List.getElem?_append_left h]
theorem getD_last (es : List (Int × Int)) (e : Int × Int) : (es ++ [e]).getD es.length (0, 0) = e := by simp [List.getD]
theorem filterMap_same {α β : Type} {f g : α → Option β} : ∀ (l : List α), (∀ x ∈ l, f x = g x) → l.filterMap f = l.filterMap g
  | [], _ => rfl
  | x :: r, h => by
    rw [List.filterMap_cons, List.filterMap_cons, h x (by simp), filterMap_same r fun y hy => h y (by simp [hy])]
theorem valsL_snoc (es : List (Int × Int)) (e : Int × Int) : valsL (es ++ [e]) = if e ∈ es then valsL es else valsL es ++ [(eV e, pV es.length)] := by
  unfold valsL
  rw [List.length_append, List.length_singleton, List.range_succ, List.filterMap_append]
  have h1 : (List.range es.length).filterMap (valAt (es ++ [e])) = (List.range es.length).filterMap (valAt es) := by
    refine filterMap_same _ fun k hk => ?_
    have hk' : k < es.length := List.mem_range.1 hk
    unfold valAt
    rw [getD_app hk', List.take_append_of_le_length (by omega)]
  rw [h1]
  have h2 : valAt (es ++ [e]) es.length = if e ∈ es then none else some (eV e, pV es.length) := by
    unfold valAt
    rw [getD_last]
    simp
  split
  · rename_i h; simp [h2, h]
  · rename_i h; simp [h2, h]
theorem keysL_snoc (es : List (Int × Int)) (e : Int × Int) : keysL (es ++ [e]) = keysL es ++ [(pV es.length, eV e)] := by
  unfold keysL
  rw [List.length_append, List.length_singleton, List.range_succ, List.map_append]
  congr 1
  · refine List.map_congr_left fun k hk => ?_
    rw [getD_app (List.mem_range.1 hk)]
  · simp
theorem take_snocE (es : List (Int × Int)) (k : Nat) (h : k < es.length) : es.take (k + 1) = es.take k ++ [es[k]] := List.take_succ_eq_append_getElem h

theorem valsL_mem {es : List (Int × Int)} {p : Value × Value} (h : p ∈ valsL es) : ∃ k, ∃ hk : k < es.length, p = (eV es[k], pV k) ∧ es[k] ∉ es.take k := by
  obtain ⟨k, hk, h⟩ := List.mem_filterMap.1 h
  have hk' : k < es.length := List.mem_range.1 hk
  have hg : es.getD k (0, 0) = es[k] := by simp [List.getD, hk']
  unfold valAt at h
  rw [hg] at h
  split at h
  · cases h
  · rename_i hn
    exact ⟨k, hk', (Option.some.inj h).symm, hn⟩
theorem vals_miss {es : List (Int × Int)} {e : Int × Int} (h : e ∉ es) : ∀ p ∈ valsL es, p.1 ≠ eV e := by
  intro p hp he
  obtain ⟨k, hk, rfl, _⟩ := valsL_mem hp
  exact h (eV_inj he ▸ List.getElem_mem hk)
theorem keys_miss {es : List (Int × Int)} {port : Int} (h : ¬ (500 ≤ port ∧ port ≤ 500 + (es.length : Int) - 1)) : ∀ p ∈ keysL es, p.1 ≠ .int .i64 port := by
  intro p hp he
  obtain ⟨k, hk, rfl⟩ := List.mem_map.1 hp
  have hk' : k < es.length := List.mem_range.1 hk
  simp [pV] at he
  omega
theorem keys_hit {es : List (Int × Int)} {k : Nat} (h : k < es.length) : (pV k, eV es[k]) ∈ keysL es := by
  refine List.mem_map.2 ⟨k, List.mem_range.2 h, ?_⟩
  simp [List.getD, h]
theorem findI_mem {es : List (Int × Int)} {e : Int × Int} (h : e ∈ es) : ∃ k, ∃ hk : k < es.length, es[k] = e ∧ e ∉ es.take k ∧ findI es e = k := by
  have hs : (es.findIdx? (fun x => x == e)).isSome := by rw [List.findIdx?_isSome]; simpa using h
  obtain ⟨k, hk⟩ := Option.isSome_iff_exists.1 hs
  have hf : findI es e = k := by unfold findI; rw [hk]
  rw [List.findIdx?_eq_some_iff_getElem] at hk
  obtain ⟨h1, h2, h3⟩ := hk
  refine ⟨k, h1, by simpa using h2, fun hm => ?_, hf⟩
  obtain ⟨_, hj, hje⟩ := List.getElem_of_mem hm
  have := h3 _ (Nat.lt_of_lt_of_le hj (by simp; omega))
  rw [List.getElem_take] at hje
  simp [hje] at this
theorem findI_not {es : List (Int × Int)} {e : Int × Int} (h : e ∉ es) : findI es e = -1 :=
  findI_miss fun _ hj he => h (he ▸ List.getElem_mem hj)
theorem findI_neg {es : List (Int × Int)} {e : Int × Int} : findI es e < 0 ↔ e ∉ es := by
  constructor
  · intro h hm
    obtain ⟨k, _, _, _, hf⟩ := findI_mem hm
    omega
  · intro h
    rw [findI_not h]
    omega
theorem vals_hit {es : List (Int × Int)} {e : Int × Int} (h : e ∈ es) : (eV e, .int .i64 (portI es e)) ∈ valsL es := by
  obtain ⟨k, hk, he, hn, hf⟩ := findI_mem h
  refine List.mem_filterMap.2 ⟨k, List.mem_range.2 hk, ?_⟩
  have hg : es.getD k (0, 0) = e := by simp [List.getD, hk, he]
  unfold valAt portI
  rw [hg, if_neg hn, hf, if_neg (by omega)]
  rfl
theorem portI_not {es : List (Int × Int)} {e : Int × Int} (h : e ∉ es) : portI es e = 0 := by
  unfold portI
  rw [if_pos (findI_neg.2 h)]
theorem portI_pos {es : List (Int × Int)} {e : Int × Int} (h : e ∈ es) : 500 ≤ portI es e ∧ portI es e < 500 + es.length := by
  obtain ⟨k, hk, _, _, hf⟩ := findI_mem h
  unfold portI
  rw [hf, if_neg (by omega)]
  omega
theorem portI_zero_iff {es : List (Int × Int)} {e : Int × Int} : ¬ 0 < portI es e ↔ e ∉ es := by
  constructor
  · intro h hm
    have := portI_pos hm
    omega
  · intro h
    rw [portI_not h]
    omega

/-- As many ends have a port as there are just if none stands twice. -/
theorem valsL_full (es : List (Int × Int)) : ((valsL es).length = es.length) ↔ ∀ k, k < es.length → es.getD k (0, 0) ∉ es.take k := by
  have h : (valsL es).length = es.length ↔ (List.range es.length).countP (fun k => (valAt es k).isSome) = (List.range es.length).length := by
    rw [valsL, List.length_filterMap_eq_countP]; simp
  rw [h, List.countP_eq_length]
  constructor
  · intro hall k hk hm
    have := hall k (List.mem_range.2 hk)
    unfold valAt at this
    rw [if_pos hm] at this
    cases this
  · intro hall k hk
    have := hall k (List.mem_range.1 hk)
    simp only [valAt]
    rw [if_neg this]
    rfl
/-- The program's test of a table is the specification's. -/
theorem mapB_vals (es : List (Int × Int)) : mapB es = (decide (es.length ≤ 6) && (es.all (fun e => insB e.1 e.2) && decide ((valsL es).length = es.length))) := by
  rw [Bool.eq_iff_iff]
  simp only [mapB, Bool.and_eq_true, decide_eq_true_eq, List.all_eq_true, List.mem_range, mapP]
  refine and_congr_right fun _ => ?_
  rw [valsL_full]
  constructor
  · intro h
    refine ⟨fun e he => ?_, fun k hk hm => ?_⟩
    · obtain ⟨k, hk, rfl⟩ := List.getElem_of_mem he
      have := (h k hk).1
      simpa [List.getD, hk] using this
    · have := (h k hk).2
      exact findI_neg.1 this hm
  · intro h k hk
    refine ⟨?_, findI_neg.2 (h.2 k hk)⟩
    have := h.1 es[k] (List.getElem_mem hk)
    simpa [List.getD, hk] using this
/-- In a table that is ok as many ends have a port as there are. -/
theorem valsL_ok {es : List (Int × Int)} (h : mapB es = true) : (valsL es).length = es.length := by
  rw [mapB_vals] at h
  simp only [Bool.and_eq_true, decide_eq_true_eq] at h
  exact h.2.2
theorem mapB_le {es : List (Int × Int)} (h : mapB es = true) : es.length ≤ 6 := by
  rw [mapB_vals] at h
  simp only [Bool.and_eq_true, decide_eq_true_eq] at h
  exact h.1
theorem mapB_ins {es : List (Int × Int)} (h : mapB es = true) : ∀ e ∈ es, insB e.1 e.2 = true := by
  rw [mapB_vals] at h
  simp only [Bool.and_eq_true, decide_eq_true_eq, List.all_eq_true] at h
  exact h.2.1
theorem mapB_snoc {es : List (Int × Int)} {e : Int × Int} (h : mapB es = true) (h6 : es.length < 6) (hi : insB e.1 e.2 = true) (hn : e ∉ es) : mapB (es ++ [e]) = true := by
  rw [mapB_vals]
  simp only [Bool.and_eq_true, decide_eq_true_eq, List.all_eq_true]
  refine ⟨by simp; omega, fun x hx => ?_, ?_⟩
  · rcases List.mem_append.1 hx with hx | hx
    · exact mapB_ins h x hx
    · rw [List.mem_singleton.1 hx]; exact hi
  · rw [valsL_snoc, if_neg hn]
    simp [valsL_ok h]
theorem ins_wf {a p : Int} (h : insB a p = true) : (Lit.int .i64 a).wf = true ∧ (Lit.int .i64 p).wf = true := by
  simp only [insB, inB, Bool.and_eq_true, decide_eq_true_eq] at h
  exact ⟨WalkArith.wf_i64 (by omega), WalkArith.wf_i64 (by omega)⟩
theorem mapB_wf {es : List (Int × Int)} (h : mapB es = true) : wfE es := fun e he => ins_wf (mapB_ins h e he)
theorem pV_wf {k : Nat} (h : k ≤ 4194304) : (Lit.int .i64 (500 + (k : Int))).wf = true := WalkArith.wf_i64 (by omega)

end Go.Proofs.YtgfkiljkpkfapaaGreatDoor

/- An end more in a table, as data: the cases. No condition. -/
namespace Go.Proofs.YtgfkiljkpkfapaaGreatDoor
open Go.RowKit

theorem putE_has {es : List (Int × Int)} {e : Int × Int} (h : e ∈ es) : putE es e = (es, portI es e) := if_pos (by have := portI_pos h; omega)
theorem putE_full {es : List (Int × Int)} {e : Int × Int} (h : e ∉ es) (h6 : es.length = 6) : putE es e = (es, 0) := by
  unfold putE
  rw [if_neg (portI_zero_iff.2 h), if_pos h6]
theorem putE_new {es : List (Int × Int)} {e : Int × Int} (h : e ∉ es) (h6 : es.length ≠ 6) : putE es e = (es ++ [e], 500 + (es.length : Int)) := by
  unfold putE
  rw [if_neg (portI_zero_iff.2 h), if_neg h6]
theorem putE_ok {es : List (Int × Int)} {e : Int × Int} (hm : mapB es = true) (hi : insB e.1 e.2 = true) : mapB (putE es e).1 = true := by
  by_cases h : e ∈ es
  · rw [putE_has h]; exact hm
  · by_cases h6 : es.length = 6
    · rw [putE_full h h6]; exact hm
    · rw [putE_new h h6]
      exact mapB_snoc hm (by have := mapB_le hm; omega) hi h

end Go.Proofs.YtgfkiljkpkfapaaGreatDoor

/- A line as it goes outside, as data. No condition. -/
namespace Go.Proofs.YtgfkiljkpkfapaaGreatDoor
open Go.RowKit

theorem says_ins {l : List UInt8} {a p : Int} (h : saysE l = some (a, p)) : insB a p = true := by
  unfold saysE at h
  split at h
  · split at h
    · split at h
      · rename_i hi
        simp at h
        obtain ⟨rfl, rfl⟩ := h
        exact hi
      · cases h
    · cases h
  · cases h
theorem lineE_none {es : List (Int × Int)} {l : List UInt8} (h : saysE l = none) : lineE es l = (es, l) := by unfold lineE; rw [h]
theorem lineE_some {es : List (Int × Int)} {l : List UInt8} {e : Int × Int} (h : saysE l = some e) : lineE es l = ((putE es e).1, if (putE es e).2 = 0 then noneL else lpL 50 (putE es e).2) := by
  unfold lineE
  rw [h]
  simp only
  split <;> rfl
theorem lineE_ok {es : List (Int × Int)} {l : List UInt8} (hm : mapB es = true) : mapB (lineE es l).1 = true := by
  rcases h : saysE l with _ | ⟨a, p⟩
  · rw [lineE_none h]; exact hm
  · rw [lineE_some h]; exact putE_ok hm (says_ins h)

end Go.Proofs.YtgfkiljkpkfapaaGreatDoor

/- Boxes and tables through calls, marks and stores: what stays. No condition. -/
namespace Go.Proofs.YtgfkiljkpkfapaaGreatDoor
open Go.RowKit Go.Sort

/-- A box of one cell that a call finds new. -/
theorem fresh1 {W w : World} {x : Value} {t : TypeId} (h : Below (W.alloc (.cells #[x] t)).heap.size (W.alloc (.cells #[x] t)) w) : w.cell? ⟨W.heap.size, 0, none⟩ = some x ∧ w.frozen? ⟨W.heap.size, 0, none⟩ = false :=
  ⟨by rw [h.cell (by simp)]; simp, by rw [h.frozen (by simp)]; exact (cell_new W _ _ 0).2⟩
theorem fresh1d {W w : World} {x : Value} {t : TypeId} (h : Below (W.alloc (.cells #[x] t)).drew.heap.size (W.alloc (.cells #[x] t)).drew w) : w.cell? ⟨W.heap.size, 0, none⟩ = some x ∧ w.frozen? ⟨W.heap.size, 0, none⟩ = false :=
  fresh1 (((Below.refl _ _).drew).trans h)
theorem box_below {w w' : World} {b i : Nat} {v : Value} (h : w.cell? ⟨b, i, none⟩ = some v) (hb : Below w.heap.size w w') : w'.cell? ⟨b, i, none⟩ = some v := by
  rw [hb.cell (p := ⟨b, i, none⟩) (World.block_lt_of_cell? w _ h)]; exact h
theorem box_frozen {w w' : World} {b i : Nat} {v : Value} (h : w.cell? ⟨b, i, none⟩ = some v) (hf : w.frozen? ⟨b, i, none⟩ = false) (hb : Below w.heap.size w w') : w'.frozen? ⟨b, i, none⟩ = false := by
  rw [hb.frozen (p := ⟨b, i, none⟩) (World.block_lt_of_cell? w _ h)]; exact hf
theorem cell_grown {w w' : World} {b i : Nat} {v : Value} {row : Option Nat} (h : w.cell? ⟨b, i, none⟩ = some v) (hg : w.grownBy w' row) (hne : some b ≠ row) : w'.cell? ⟨b, i, none⟩ = some v := by
  have hk := hg.block b (World.block_lt_of_cell? w _ h) hne
  simp only [World.cell?] at h ⊢
  rw [hk]; exact h
theorem OwnTab.fresh {w : World} {B : Nat} {v : Value} {es : List (Int × Int)} (h : OwnTab w B v es) : FreshTab w B v es := by
  rcases h.2 with ⟨rfl, h0⟩ | ⟨g, cap, cur, rfl, hB, hg, h2, _, hs, ht⟩
  · exact .inl ⟨List.eq_nil_of_length_eq_zero h0, none, 0, rfl, fun _ => rfl⟩
  · have hlt := (Array.getElem?_eq_some_iff.1 hg).1
    have hh := h.tab
    by_cases he : es = []
    · subst he
      exact .inl ⟨rfl, _, cap, rfl, fun e => by cases e⟩
    · obtain ⟨a, c, e1, _, hrow⟩ := hh
      obtain ⟨g', e2, hat⟩ := hrow (List.length_pos_iff.2 he)
      simp at e1
      obtain ⟨rfl, rfl⟩ := e1
      simp at e2
      subst e2
      refine .inr ⟨g, cap, rfl, h2, hB, hlt, hat, fun i hi => ⟨?_, by simp [World.frozen?, hg]⟩⟩
      have hi' : i < cur.size := by rw [hs]; exact Nat.lt_of_lt_of_le hi (Nat.mul_le_mul_right _ h2)
      exact ⟨cur[i], by simp [World.cell?, hg, hi']⟩
theorem FreshTab.nil (w : World) (B : Nat) : FreshTab w B (.slice none 0 0) [] := .inl ⟨rfl, none, 0, rfl, fun _ => rfl⟩
theorem FreshTab.form {w : World} {B : Nat} {v : Value} {us : List (Int × Int)} (h : FreshTab w B v us) : ∃ a c, v = .slice a us.length c := by
  rcases h with ⟨rfl, a, cap, rfl, _⟩ | ⟨g, cap, rfl, _⟩
  · exact ⟨a, cap, rfl⟩
  · exact ⟨_, cap, rfl⟩
theorem FreshTab.mono {w : World} {B B' : Nat} {v : Value} {us : List (Int × Int)} (h : FreshTab w B v us) (hB : B' ≤ B) : FreshTab w B' v us := by
  rcases h with h | h
  · exact .inl h
  · exact .inr (h.mono hB)
theorem FreshTab.setCell {w : World} {B : Nat} {v : Value} {us : List (Int × Int)} (h : FreshTab w B v us) {a : Addr} (ha : a.block < B) (u : Value) : FreshTab (w.setCell a u) B v us := by
  rcases h with h | h
  · exact .inl h
  · exact .inr (h.setCell ha u)
theorem FreshTab.later {w w' : World} {B : Nat} {v : Value} {us : List (Int × Int)} (h : FreshTab w B v us) (hb : Below w.heap.size w w') : FreshTab w' B v us := h.below (Nat.le_refl _) hb
/-- What a table's own block is: none, or one behind B. -/
theorem FreshTab.block {w : World} {B : Nat} {v : Value} {us : List (Int × Int)} (h : FreshTab w B v us) (hu : us ≠ []) {k : Nat} (hk : v.ownBlock = some k) : B ≤ k ∧ k < w.heap.size := by
  rcases h with h | ⟨g, cap, rfl, _, hB, hl, _⟩
  · exact absurd h.1 hu
  · simp [Value.ownBlock] at hk
    subst hk
    exact ⟨hB, hl⟩
theorem TabRoom.fresh {w : World} {B : Nat} {v : Value} {es : List (Int × Int)} (h : TabRoom w B v es) : FreshTab w B v es := .inr h
/-- A table whose row lies elsewhere stays, when one row is marked. -/
theorem FreshTab.grown {w w' : World} {B : Nat} {v : Value} {us : List (Int × Int)} {row : Option Nat} (h : FreshTab w B v us) (hg : w.grownBy w' row) (hne : ∀ k, row = some k → k < B) : FreshTab w' B v us := by
  rcases h with h | ⟨g, cap, rfl, h1, h2, h3, h4, h5⟩
  · exact .inl h
  · have hn : some g ≠ row := fun e => by have := hne g e.symm; omega
    refine .inr ⟨g, cap, rfl, h1, h2, Nat.lt_of_lt_of_le h3 hg.size, h4.grown hg hn, fun i hi => ?_⟩
    obtain ⟨⟨u, hu⟩, hf⟩ := h5 i hi
    refine ⟨⟨u, cell_grown hu hg hn⟩, ?_⟩
    rw [World.frozen?_of_block (hg.block g h3 hn)]; exact hf
end Go.Proofs.YtgfkiljkpkfapaaGreatDoor

/- l3Stream and RwrStream of the specification. Conditions: the table is ok; the text has at most 2^21 bytes. -/
namespace Go.Proofs.YtgfkiljkpkfapaaGreatDoor
open Go.RowKit Go.Sort

theorem lpL_len' (a p : Int) : (lpL a p).length ≤ 20 := by
  unfold lpL
  split
  · rename_i h
    obtain ⟨h1, h2, h3, h4⟩ := end_bounds h
    have l1 := dec_len4 (k := a.toNat) (by omega)
    have l2 := dec_len4 (k := p.toNat) (by omega)
    simp [portL, endL]; omega
  · simp
theorem lineE_len (es : List (Int × Int)) (l : List UInt8) : (lineE es l).2.length ≤ l.length + 20 := by
  rcases h : saysE l with _ | e
  · rw [lineE_none h]
    simp
  · rw [lineE_some h]
    simp only
    split
    · simp [noneL]
    · have := lpL_len' 50 (putE es e).2
      omega
/-- One line more goes outside. -/
def strF (T : List (Int × Int) × List UInt8) (l : List UInt8) : List (Int × Int) × List UInt8 := ((lineE T.1 l).1, T.2 ++ (lineE T.1 l).2 ++ [59])
/-- Lines as they go outside, one behind the other, and the table then. -/
def streamE (es : List (Int × Int)) (ls : List (List UInt8)) : List (Int × Int) × List UInt8 := ls.foldl strF (es, [])
theorem streamE_snoc (es : List (Int × Int)) (ls : List (List UInt8)) (l : List UInt8) : streamE es (ls ++ [l]) = strF (streamE es ls) l := by simp [streamE]
theorem streamE_ok {es : List (Int × Int)} (hm : mapB es = true) (ls : List (List UInt8)) : mapB (streamE es ls).1 = true := by
  unfold streamE
  suffices h : ∀ (T : List (Int × Int) × List UInt8), mapB T.1 = true → mapB (ls.foldl strF T).1 = true from h _ hm
  induction ls with
  | nil => intro T h; exact h
  | cons l r ih => intro T h; exact ih _ (lineE_ok h)

/-- A block of cells of this type. -/
def Tag (w : World) (b : Nat) (t : TypeId) : Prop := ∃ cs fz, w.heap[b]? = some (.cells cs t fz)
theorem Tag.lt {w : World} {b : Nat} {t : TypeId} (h : Tag w b t) : b < w.heap.size := by
  obtain ⟨_, _, h⟩ := h
  exact (Array.getElem?_eq_some_iff.1 h).1
theorem Tag.later {w w' : World} {b : Nat} {t : TypeId} (h : Tag w b t) (hb : Below w.heap.size w w') : Tag w' b t := by
  have hl := h.lt
  obtain ⟨cs, fz, h⟩ := h
  exact ⟨cs, fz, (hb.block b hl).trans h⟩
theorem Tag.new (w : World) (cs : Array Value) (t : TypeId) : Tag (w.alloc (.cells cs t)) w.heap.size t := ⟨cs, _, heap_alloc_new w (.cells cs t)⟩
/-- A table that lies in a block of ends stays, when a cell of a block of another type is written. -/
theorem OwnTab.setTag {w : World} {B : Nat} {v : Value} {es : List (Int × Int)} {t : TypeId} (h : OwnTab w B v es) {a : Addr} (ht : Tag w a.block t) (hne : t ≠ 31) (u : Value) : OwnTab (w.setCell a u) B v es := by
  refine ⟨h.1, ?_⟩
  rcases h.2 with h2 | ⟨g, cap, cur, hv, hB, hg, r⟩
  · exact .inl h2
  · refine .inr ⟨g, cap, cur, hv, hB, ?_, r⟩
    rw [Below.heap_setCell _ _ _ _ fun e => ?_]
    · exact hg
    · obtain ⟨cs, fz, h1⟩ := ht
      rw [← e, hg] at h1
      injection h1 with h1
      injection h1 with _ h2 _
      exact hne h2.symm
theorem tab_ne : (26 : TypeId) ≠ 31 := by decide
theorem fresh1t {W w : World} {x : Value} {t : TypeId} (h : Below (W.alloc (.cells #[x] t)).heap.size (W.alloc (.cells #[x] t)) w) : Tag w W.heap.size t := (Tag.new W #[x] t).later h
theorem fresh1dt {W w : World} {x : Value} {t : TypeId} (h : Below (W.alloc (.cells #[x] t)).drew.heap.size (W.alloc (.cells #[x] t)).drew w) : Tag w W.heap.size t := fresh1t (((Below.refl _ _).drew).trans h)
theorem Tag.setCell {w : World} {b : Nat} {t : TypeId} (h : Tag w b t) (a : Addr) (u : Value) : Tag (w.setCell a u) b t := by
  obtain ⟨cs, fz, h⟩ := h
  by_cases e : b = a.block
  · subst e
    refine ⟨if a.spot.isSome then cs else cs.setIfInBounds a.off u, fz, ?_⟩
    show (w.heap.modify a.block _)[a.block]? = _
    rw [Array.getElem?_modify]
    simp [h]
  · exact ⟨cs, fz, (Below.heap_setCell _ _ _ _ e).trans h⟩

end Go.Proofs.YtgfkiljkpkfapaaGreatDoor

/- When a box is ok: as data. No condition. -/
namespace Go.Proofs.YtgfkiljkpkfapaaGreatDoor
open Go.RowKit Go.Sort

def sameCn (c : Cn) (ia ip oa op : Int) : Bool := decide (c.ia = ia) && decide (c.ip = ip) && (decide (c.oa = oa) && decide (c.op = op))
/-- Where the streams of two ends stand; -1, if they do not. -/
def findCn (cs : List Cn) (ia ip oa op : Int) : Int := match cs.findIdx? (fun c => sameCn c ia ip oa op) with | some k => (k : Int) | none => -1
theorem findCn_hit {cs : List Cn} {ia ip oa op : Int} {k : Nat} (hk : k < cs.length) (he : sameCn cs[k] ia ip oa op = true) (hn : ∀ j (hj : j < k), sameCn cs[j] ia ip oa op = false) : findCn cs ia ip oa op = k := by
  unfold findCn
  have : cs.findIdx? (fun c => sameCn c ia ip oa op) = some k := by
    rw [List.findIdx?_eq_some_iff_getElem]
    exact ⟨hk, he, fun j hj => by simpa using hn j hj⟩
  rw [this]
theorem findCn_miss {cs : List Cn} {ia ip oa op : Int} (hn : ∀ j (hj : j < cs.length), sameCn cs[j] ia ip oa op = false) : findCn cs ia ip oa op = -1 := by
  unfold findCn
  have : cs.findIdx? (fun c => sameCn c ia ip oa op) = none := by
    rw [List.findIdx?_eq_none_iff]
    intro x hx
    obtain ⟨j, hj, rfl⟩ := List.getElem_of_mem hx
    exact hn j hj
  rw [this]
/-- Whether a stream's lines give no port to anybody. -/
def knowB (es : List (Int × Int)) (l : List UInt8) : Bool := decide ((streamE es (linesL l)).1.length = es.length)
/-- Whether the k-th of some lines may have gone inside as the k-th of the others. -/
def nearAt (es : List (Int × Int)) (ls os : List (List UInt8)) (k : Nat) : Bool := decide (os.getD k [] = ls.getD k []) || decide (os.getD k [] = backE es (ls.getD k []))
def nearB (es : List (Int × Int)) (he ne : List UInt8) : Bool := decide ((linesL he).length = (linesL ne).length) && decide (restL ne = []) && decide (ne.length ≤ 240) && (List.range (linesL he).length).all (nearAt es (linesL he) (linesL ne))
/-- Whether streams are ok by themselves. -/
def conB (es : List (Int × Int)) (c : Cn) : Bool := insB c.ia c.ip && outB c.oa c.op && decide (c.op = 21) && decide (portI es (c.ia, c.ip) ≠ 0) && strB c.kn.data.toList && strB c.he.data.toList && (knowB es c.kn.data.toList && nearB es c.he.data.toList c.ne.data.toList)
def connB (es : List (Int × Int)) (cs : List Cn) (k : Nat) : Bool := conB es (cs.getD k default) && decide (findCn (cs.take k) (cs.getD k default).ia (cs.getD k default).ip (cs.getD k default).oa (cs.getD k default).op < 0)
def boxOkB (b : Bx) : Bool := mapB b.es && rulesB b.rs && decide (b.cs.length ≤ 3) && (List.range b.cs.length).all (connB b.es b.cs)

theorem str_beqB (x y : List UInt8) : (((⟨x.toArray⟩ : ByteArray).toList) == ((⟨y.toArray⟩ : ByteArray).toList)) = decide (x = y) := by
  rw [Lib.toList_data, Lib.toList_data]
  by_cases h : x = y
  · subst h; simp
  · rw [decide_eq_false h]
    simpa using h
theorem str_emp (x : List UInt8) : ((⟨x.toArray⟩ : ByteArray).toList).isEmpty = decide (x = []) := by
  rw [Lib.toList_data]
  cases x <;> simp

/-- The beginning of a list that is read. -/
theorem RdC.take {α : Type} {c : α → List Value} {w : World} {a : Option Addr} {n cap k : Nat} {xs : List α} (hk : ∃ m, ∀ x, (c x).length = m) (h : RdC c w (.slice a n cap) xs) (hkn : k ≤ xs.length) : RdC c w (.slice a k cap) (xs.take k) := by
  obtain ⟨a', cap', e, hc, hr⟩ := h
  simp at e
  obtain ⟨rfl, rfl, rfl⟩ := e
  refine ⟨a, cap, by rw [List.length_take, Nat.min_eq_left hkn], by rw [List.length_take]; omega, fun hn => ?_⟩
  rw [List.length_take] at hn
  obtain ⟨g, rfl, hrow⟩ := hr (by omega)
  refine ⟨g, rfl, fun i hi => ?_⟩
  obtain ⟨m, hm⟩ := hk
  have he : flatC c xs = flatC c (xs.take k) ++ flatC c (xs.drop k) := by rw [← flatC_app, List.take_append_drop]
  have hi2 : i < (flatC c xs).length := by rw [he, List.length_append]; omega
  have := hrow i hi2
  refine ⟨this.1.trans ?_, this.2⟩
  congr 1
  simp only [he]
  exact List.getElem_append_left hi

end Go.Proofs.YtgfkiljkpkfapaaGreatDoor

/- Whether a stream's lines give no port, and whether lines may have gone inside, as the specification asks. Conditions: at most 2^22 ends; texts of at most 2^21 bytes. -/
namespace Go.Proofs.YtgfkiljkpkfapaaGreatDoor
open Go.RowKit Go.Sort

theorem near_no_at {es : List (Int × Int)} {ls os : List (List UInt8)} {k : Nat} (hk : k < ls.length) (h : nearAt es ls os k = false) : (List.range ls.length).all (nearAt es ls os) = false :=
  List.all_eq_false.2 ⟨k, by simpa using hk, by simp [h]⟩
theorem near_yes {es : List (Int × Int)} {ls os : List (List UInt8)} (h : ∀ j, j < ls.length → nearAt es ls os j = true) : (List.range ls.length).all (nearAt es ls os) = true :=
  List.all_eq_true.2 (fun j hj => h j (by simpa using hj))

set_option maxRecDepth 100000 in
set_option maxHeartbeats 3200000 in
theorem specNear_any (v : Value) (es : List (Int × Int)) (he ne : ByteArray) (w : World) (hn : es.length ≤ 4194304) (hh : he.size ≤ 2097152) (hne : ne.size ≤ 2097152) (ht : TabAt w v es) :
    Calls Tryz.prog 88 #[.agg #[v], .string he, .string ne] w fun e w' => e = .returned (.bool (nearB es he.data.toList ne.data.toList)) ∧ Below w.heap.size w w' := by
  have HT := Lib.hid ht
  obtain ⟨ad, cap, rfl, _, _⟩ := ht
  have HL : Hid (∀ w, Calls Tryz.prog 123 #[.string he] w fun e w' => ∃ v, e = .returned (.tuple #[v, .string ⟨(restL he.data.toList).toArray⟩]) ∧ w'.ownsRow w.heap.size 9 1 v (linesL he.data.toList).length ((linesL he.data.toList).map strV) ∧ Below w.heap.size w w') := fun w => specLines_any he w hh
  have HO : Hid (∀ w, Calls Tryz.prog 123 #[.string ne] w fun e w' => ∃ v, e = .returned (.tuple #[v, .string ⟨(restL ne.data.toList).toArray⟩]) ∧ w'.ownsRow w.heap.size 9 1 v (linesL ne.data.toList).length ((linesL ne.data.toList).map strV) ∧ Below w.heap.size w w') := fun w => specLines_any ne w hne
  have hlz : ∀ x ∈ linesL he.data.toList, x.length ≤ 2097152 := fun x hx => by have := line_len hx; rw [len_list] at this; omega
  have hl0 := lines_len he.data.toList
  rw [len_list] at hl0
  have HQ : Hid (nearB es he.data.toList ne.data.toList = (decide ((linesL he.data.toList).length = (linesL ne.data.toList).length) && decide (restL ne.data.toList = []) && decide (ne.size ≤ 240) && (List.range (linesL he.data.toList).length).all (nearAt es (linesL he.data.toList) (linesL ne.data.toList)))) := by
    show nearB _ _ _ = _
    unfold nearB
    rw [len_list]
  obtain ⟨q, hq⟩ : ∃ q, q = nearB es he.data.toList ne.data.toList := ⟨_, rfl⟩
  rw [← hq] at HQ ⊢
  obtain ⟨ls, hls⟩ : ∃ ls, ls = linesL he.data.toList := ⟨_, rfl⟩
  obtain ⟨os, hos⟩ : ∃ os, os = linesL ne.data.toList := ⟨_, rfl⟩
  obtain ⟨rs, hrs⟩ : ∃ rs, rs = restL ne.data.toList := ⟨_, rfl⟩
  obtain ⟨ra, hra⟩ : ∃ rs, rs = (restL he.data.toList).toArray := ⟨_, rfl⟩
  rw [← hls] at HL HQ hlz hl0
  rw [← hra] at HL
  rw [← hos, ← hrs] at HO
  rw [← hos, ← hrs] at HQ
  have hln : ls.length ≤ 2097152 := by omega
  have HLZ := Lib.hid hlz
  clear hq hls hos hrs hra hlz hl0
  obtain ⟨R, hR⟩ : ∃ R : ByteArray, R = ⟨rs.toArray⟩ := ⟨_, rfl⟩
  have hRe : R.toList.isEmpty = decide (rs = []) := by rw [hR]; exact str_emp rs
  rw [← hR] at HO
  clear hR
  go_enter Tryz.func88, Tryz.ntmps88
  go_wp2_with fail
  (go_at_call 123; refine (HL.out _).mono ?_; rintro e w1 ⟨v1, rfl, own1, b1⟩)
  have B1 : Hid (Below w.heap.size w w1) := ((Below.refl _ _).alloc (Nat.le_refl _) _).trans (b1.mono (by simp))
  have hx1 := (fresh1 b1).1
  have s1 : w.heap.size < w1.heap.size := by have := b1.size; simp at this; omega
  obtain ⟨rd1, _⟩ := RdV.of_own own1
  have R1 := Lib.hid rd1
  obtain ⟨a1, c1, rfl⟩ := own_form own1
  clear own1 b1 rd1
  go_wp2_with fail
  (go_at_call 123; refine (HO.out _).mono ?_; rintro e w2 ⟨v2, rfl, own2, b2⟩)
  have B2 : Hid (Below w.heap.size w w2) := B1.out.trans (b2.mono (by omega))
  have hx2 : w2.cell? ⟨w.heap.size, 0, none⟩ = some (.slice ad es.length cap) := (b2.cell (p := ⟨w.heap.size, 0, none⟩) s1).trans hx1
  obtain ⟨rd2, _⟩ := RdV.of_own own2
  have R2 := Lib.hid rd2
  have R12 := Lib.hid (R1.out.below b2)
  obtain ⟨a2, c2, rfl⟩ := own_form own2
  have s2 : w.heap.size < w2.heap.size := by have := b2.size; omega
  clear own2 b2 rd2 hx1 R1
  by_cases hlen : ls.length = os.length
  rotate_left
  · have hqf : q = false := by have := HQ.out; simpa [hlen] using this
    subst hqf
    go_wp2
    go_ret
    exact ⟨rfl, B2.out⟩
  by_cases hr0 : rs = []
  rotate_left
  · have hqf : q = false := by have := HQ.out; simpa [hr0] using this
    have hRf : R.toList.isEmpty = false := by rw [hRe]; simp [hr0]
    subst hqf
    clear hRe
    go_wp2
    go_ret
    exact ⟨rfl, B2.out⟩
  by_cases h240 : 240 < ne.size
  · have hqf : q = false := by have := HQ.out; simpa [show ¬ ne.size ≤ 240 by omega] using this
    have hRf : R.toList.isEmpty = true := by rw [hRe]; simp [hr0]
    subst hqf
    clear hRe
    go_wp2
    go_ret
    exact ⟨rfl, B2.out⟩
  have HQ2 : Hid (q = (List.range ls.length).all (nearAt es ls os)) := by
    show q = _
    have := HQ.out
    rw [decide_eq_true hlen, decide_eq_true hr0, decide_eq_true (by omega : ne.size ≤ 240)] at this
    simpa using this
  have hRf : R.toList.isEmpty = true := by rw [hRe]; simp [hr0]
  have HLEN := Lib.hid hlen
  clear hRe HQ hr0
  have rowL : Hid (0 < ls.length → ∃ g, a1 = some ⟨g, 0, none⟩ ∧ g < w2.heap.size ∧ RowAt w2 g (ls.map strV)) := fun h => by
    obtain ⟨a', cap', e, hr⟩ := R12.out
    simp at e
    obtain ⟨rfl, rfl⟩ := e
    obtain ⟨g, e, h2⟩ := hr (by simpa using h)
    exact ⟨g, e, h2.lt (by simpa using h), h2⟩
  have rowO : Hid (0 < ls.length → ∃ g, a2 = some ⟨g, 0, none⟩ ∧ g < w2.heap.size ∧ RowAt w2 g (os.map strV)) := fun h => by
    obtain ⟨a', cap', e, hr⟩ := R2.out
    simp at e
    obtain ⟨rfl, rfl⟩ := e
    obtain ⟨g, e, h2⟩ := hr (by simp; omega)
    exact ⟨g, e, h2.lt (by simp; omega), h2⟩
  have hT2 := Lib.hid (HT.out.below B2.out)
  clear R12 R2
  have hk9 : (ls.length : Int) = (os.length : Int) := by omega
  go_wp2_with fail
  clear hk9
  go_loopw [11] (fun i wr => ∃ k : Nat, k ≤ ls.length ∧ i = .int .i64 k ∧ (∀ j, j < k → nearAt es ls os j = true) ∧ wr.cell? ⟨w.heap.size, 0, none⟩ = some (.slice ad es.length cap) ∧ Below w2.heap.size w2 wr) (fun i _ => ls.length - (intOf i).toNat)
  case atStart => exact ⟨0, Nat.zero_le _, rfl, fun j hj => by omega, hx2, Below.refl _ _⟩
  case round =>
    obtain ⟨k, hk, rfl, hd, k0, hb⟩ := hrel
    have HD := Lib.hid hd
    clear hd
    by_cases hlt : k < ls.length
    · obtain ⟨g1, rfl, hg1, q1⟩ := rowL.out (by omega)
      obtain ⟨g2, rfl, hg2, q2⟩ := rowO.out (by omega)
      have hlo : k < os.length := by have := HLEN.out; omega
      obtain ⟨x, hx⟩ : ∃ x, x = ls[k] := ⟨_, rfl⟩
      obtain ⟨y, hy⟩ : ∃ y, y = os[k] := ⟨_, rfl⟩
      have r1 : wr.cell? ⟨g1, k, none⟩ = some (.string ⟨x.toArray⟩) := by
        rw [hb.cell (p := ⟨g1, k, none⟩) hg1, (q1 k (by simpa using hlt)).1]; simp [hx, strV]
      have r2 : wr.cell? ⟨g2, k, none⟩ = some (.string ⟨y.toArray⟩) := by
        rw [hb.cell (p := ⟨g2, k, none⟩) hg2, (q2 k (by simpa using hlo)).1]; simp [hy, strV]
      have HN : Hid (nearAt es ls os k = (decide (y = x) || decide (y = backE es x))) := by
        show nearAt es ls os k = _
        unfold nearAt
        rw [show ls.getD k [] = x from by simp [List.getD, hlt, hx], show os.getD k [] = y from by simp [List.getD, hlo, hy]]
      have hxs : x.length ≤ 2097152 := HLZ.out x (by rw [hx]; exact List.getElem_mem _)
      obtain ⟨X, hX⟩ : ∃ X : ByteArray, X = ⟨x.toArray⟩ := ⟨_, rfl⟩
      obtain ⟨Y, hY⟩ : ∃ Y : ByteArray, Y = ⟨y.toArray⟩ := ⟨_, rfl⟩
      obtain ⟨Z, hZ⟩ : ∃ Z : ByteArray, Z = ⟨(backE es x).toArray⟩ := ⟨_, rfl⟩
      have HE1 : Hid ((Y.toList == X.toList) = decide (y = x)) := by show _ = _; rw [hX, hY]; exact str_beqB y x
      have HE2 : Hid ((Y.toList == Z.toList) = decide (y = backE es x)) := by show _ = _; rw [hZ, hY]; exact str_beqB y (backE es x)
      have hXs : X.size ≤ 2097152 := by rw [hX]; simpa [ByteArray.size] using hxs
      have hXd : X.data.toList = x := by rw [hX]
      have cB : ∀ d os, Calls Tryz.prog 125 #[.agg #[.slice ad es.length cap], .string X] (grow (redrawn wr d) os) fun e w'' => e = .returned (.string Z) ∧ ∃ q : Regrown, w'' = grow (redrawn wr q.d) q.os :=
        fun d os => Calls.regrown_of (by
          have := specBack_any _ es X (grow (redrawn wr d) os) hn hXs ((hT2.out.below hb).below (below_regrown wr d os))
          rw [hXd, ← hZ] at this
          exact this)
      rw [← hX] at r1
      rw [← hY] at r2
      have K0 := cell_regrown k0
      have K1 := cell_regrown r1
      have K2 := cell_regrown r2
      have hk2 : (k : Int) < (ls.length : Int) := by omega
      have hk3 : (k : Int) < (os.length : Int) := by omega
      clear q1 q2 hx hy hX hY hZ hXd hxs r1 r2
      cases e1 : decide (y = x)
      rotate_left
      · have F1 : (Y.toList == X.toList) = true := HE1.out.trans e1
        have HNT : Hid (nearAt es ls os k = true) := by show _ = _; rw [HN.out, e1]; rfl
        clear HE1 HE2 HN e1
        go_wp2_with fail
        refine wp_region_quiet_below (by kernel_rfl) (by kernel_rfl) ?_
        repeat (first | go_big_quiet_skip | quiet_step (exact cB _ _))
        refine wpQuiet_nil ?_
        intro _ hw'
        obtain ⟨⟨dq, osq⟩, hw''⟩ := hw'
        subst hw''
        go_wp2
        go_roundw
        case rel =>
          refine ⟨k + 1, by omega, by go_num, fun j hj => ?_, K0 dq osq, hb.trans ((below_regrown wr dq osq).mono hb.size)⟩
          by_cases hjk : j = k
          · subst hjk; exact HNT.out
          · exact HD.out j (by omega)
        case measure => simp [intOf]; omega
      cases e2 : decide (y = backE es x)
      rotate_left
      · have F1 : (Y.toList == X.toList) = false := HE1.out.trans e1
        have F2 : (Y.toList == Z.toList) = true := HE2.out.trans e2
        have HNT : Hid (nearAt es ls os k = true) := by show _ = _; rw [HN.out, e2]; simp
        clear HE1 HE2 HN e1 e2
        go_wp2_with fail
        refine wp_region_quiet_below (by kernel_rfl) (by kernel_rfl) ?_
        repeat (first | go_big_quiet_skip | quiet_step (exact cB _ _))
        refine wpQuiet_nil ?_
        intro _ hw'
        obtain ⟨⟨dq, osq⟩, hw''⟩ := hw'
        subst hw''
        go_wp2
        go_roundw
        case rel =>
          refine ⟨k + 1, by omega, by go_num, fun j hj => ?_, K0 dq osq, hb.trans ((below_regrown wr dq osq).mono hb.size)⟩
          by_cases hjk : j = k
          · subst hjk; exact HNT.out
          · exact HD.out j (by omega)
        case measure => simp [intOf]; omega
      have F1 : (Y.toList == X.toList) = false := HE1.out.trans e1
      have F2 : (Y.toList == Z.toList) = false := HE2.out.trans e2
      have HQF : Hid (q = false) := HQ2.out.trans (near_no_at hlt (by rw [HN.out, e1, e2]; rfl))
      clear HE1 HE2 HN e1 e2 HQ2
      go_wp2_with fail
      refine wp_region_quiet_below (by kernel_rfl) (by kernel_rfl) ?_
      repeat (first | go_big_quiet_skip | quiet_step (exact cB _ _))
      refine wpQuiet_nil ?_
      intro _ hw'
      obtain ⟨⟨dq, osq⟩, hw''⟩ := hw'
      subst hw''
      go_wp2
      go_ret
      exact ⟨ret_bool HQF.out.symm, B2.out.trans ((hb.trans ((below_regrown wr dq osq).mono hb.size)).mono B2.out.size)⟩
    · have HQT : Hid (q = true) := HQ2.out.trans (near_yes fun j hj => HD.out j (by omega))
      have hkl : k = ls.length := by omega
      clear HQ2 HD
      go_wp2
      go_ret
      exact ⟨ret_bool HQT.out.symm, B2.out.trans (hb.mono B2.out.size)⟩

end Go.Proofs.YtgfkiljkpkfapaaGreatDoor
