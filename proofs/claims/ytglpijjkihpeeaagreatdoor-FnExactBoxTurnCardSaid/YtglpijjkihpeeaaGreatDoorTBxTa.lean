/- l3Line of the specification: a line as it goes outside, and the table then. Conditions: at most 2^22 ends; the text has at most 2^21 bytes. (Several texts, joined: SSays, SPut, SPutN, SPuts, SLin, SBak, Cell2, SRwr.) -/
import Derived.Test.YtglpijjkihpeeaaGreatDoorRds
import Derived.Test.YtglpijjkihpeeaaGreatDoorSPort
import Derived.Test.YtglpijjkihpeeaaGreatDoorOwnEnds
import Derived.Test.YtglpijjkihpeeaaGreatDoorSMap
import Derived.Laws.AppendOwnNone
import Derived.Deep.RegionHeld3
import Derived.Deep.AppendLies
import Derived.Deep.RegionLaw
import Derived.Deep.DeepCutAuto
import Derived.Deep.RegionWith
import Derived.Test.YtglpijjkihpeeaaGreatDoorGen
import Derived.Test.YtglpijjkihpeeaaGreatDoorLines

/- LinSays and LinBox of the specification. Condition: the text has at most 2^21 bytes. -/
namespace Go.Proofs.YtglpijjkihpeeaaGreatDoor
open Go.RowKit

/-- The end inside that a line names; the port of the box's. -/
def saysE (l : List UInt8) : Option (Int × Int) := if l.take 5 = portL then match rdE (l.drop 5) with | some (a, p) => if insB a p = true then some (a, p) else none | none => none else none
def boxE (l : List UInt8) : Option Int := if l.take 5 = portL then match rdE (l.drop 5) with | some (a, p) => if a = 50 then some p else none | none => none else none

theorem ext_drop (s : ByteArray) (i : Nat) : (s.extract i s.size).data.toList = s.data.toList.drop i := by
  rw [ext_list, List.take_of_length_le (by rw [len_list]; omega)]
theorem ext_take (s : ByteArray) (i : Nat) : (s.extract 0 i).data.toList = s.data.toList.take i := by
  rw [ext_list]; simp

/-- What LinSays and LinBox answer. -/
def saysV : Option (Int × Int) → Value
  | some (a, p) => .tuple #[.agg #[.int .i64 a, .int .i64 p], .bool true]
  | none => .tuple #[.agg #[.int .i64 0, .int .i64 0], .bool false]
def boxV : Option Int → Value
  | some p => .tuple #[.int .i64 p, .bool true]
  | none => .tuple #[.int .i64 0, .bool false]

set_option maxRecDepth 100000 in
set_option maxHeartbeats 800000 in
theorem specSays_any (s : ByteArray) (w : World) (hs : s.size ≤ 2097152) :
    Calls Tryz.prog 188 #[.string s] w fun e w' => e = .returned (saysV (saysE s.data.toList)) ∧ Below w.heap.size w w' := by
  have hshort : s.data.toList.take 5 = portL → 5 ≤ s.size := by
    intro h; have := congrArg List.length h; simp [portL] at this; omega
  by_cases h5 : s.size < 5
  · have HV : Hid (saysE s.data.toList = none) := by
      show saysE s.data.toList = none
      unfold saysE; rw [if_neg (fun h => by have := hshort h; omega)]
    clear hshort
    go_enter Tryz.func188, Tryz.ntmps188
    go_wp2_with fail
    refine bodyPost_ret (v := .tuple #[.agg #[.int .i64 0, .int .i64 0], .bool false]) (by simp [results, Tryz.results188, go_sem]) rfl ⟨by rw [HV.out]; rfl, ?_⟩
    exact (Below.refl _ _).alloc (Nat.le_refl _) _
  · by_cases ht : s.data.toList.take 5 = portL
    · have hq : (!(s.extract 0 5).toList == [112, 111, 114, 116, 32]) = false := by
        rw [Lib.toList_data, ext_take, ht]; rfl
      have HE : Hid (∀ w, Calls Tryz.prog 189 #[.string (s.extract 5 s.size)] w fun e w' => e = .returned (rdS (s.data.toList.drop 5)) ∧ Below w.heap.size w w') := by
        intro w; have := specRead_any (s.extract 5 s.size) w (by simp; omega); rw [ext_drop] at this; exact this
      rcases hr : rdE (s.data.toList.drop 5) with _ | ⟨a, p⟩
      · have HV : Hid (saysE s.data.toList = none) := by
          show saysE s.data.toList = none
          unfold saysE; rw [if_pos ht, hr]
        have HR := Lib.hid (rdE_none hr)
        clear hshort hr ht
        go_enter Tryz.func188, Tryz.ntmps188
        go_wp2_with (go_at_call 189; refine (HE.out _).mono ?_; rintro e w1 ⟨rfl, b1⟩; rw [HR.out]; obtain ⟨c1, f1⟩ := bcell b1; have z1 : w.heap.size < w1.heap.size := by (have hq := b1.size; simp at hq; omega))
        obtain ⟨q0, q1, q2⟩ := set_two (w := w1) (b := w.heap.size) (x := .int .i64 0) (y := .int .i64 0) (.int .i64 0) (.int .i64 0) (by rw [c1 _ _ (by simp)]; simp) (by rw [c1 _ _ (by simp)]; simp)
        refine bodyPost_ret (v := .tuple #[.agg #[.int .i64 0, .int .i64 0], .bool false]) (by simp [results, Tryz.results188, go_sem, cell_alloc_lt, z1, q1, q2]) rfl ⟨by rw [HV.out]; rfl, ?_⟩
        exact (((below_box b1).setCell (Nat.le_refl _) _).setCell (Nat.le_refl _) _).alloc (by simp; omega) _
      · obtain ⟨hR, hb⟩ := rdE_some hr
        have HR := Lib.hid hR
        by_cases hin : insB a p = true
        · have HV : Hid (saysE s.data.toList = some (a, p)) := by
            show saysE s.data.toList = some (a, p)
            unfold saysE; rw [if_pos ht, hr]; simp [hin]
          clear hshort hr ht hR hb
          go_enter Tryz.func188, Tryz.ntmps188
          go_wp2_with (first
            | (go_at_call 189; refine (HE.out _).mono ?_; rintro e w1 ⟨rfl, b1⟩; rw [HR.out]; obtain ⟨c1, f1⟩ := bcell b1; have z1 : w.heap.size < w1.heap.size := by (have hq := b1.size; simp at hq; omega))
            | (go_at_call 53; refine (specInside_any _ _ _).mono ?_; rintro e w3 ⟨rfl, b3⟩; obtain ⟨c3, f3⟩ := bcell b3; have z3 : w1.heap.size < w3.heap.size := by (have hq := b3.size; simp at hq; omega)))
          obtain ⟨q0, q1, q2⟩ := set_two (w := w3) (b := w.heap.size) (x := .int .i64 0) (y := .int .i64 0) (.int .i64 a) (.int .i64 p) (by rw [c3 _ _ (by simp; omega), cell_alloc_lt z1, c1 _ _ (by simp)]; simp) (by rw [c3 _ _ (by simp; omega), cell_alloc_lt z1, c1 _ _ (by simp)]; simp)
          refine bodyPost_ret (v := .tuple #[.agg #[.int .i64 a, .int .i64 p], .bool true]) (by simp [results, Tryz.results188, go_sem, q1, q2]) rfl ⟨by rw [HV.out]; rfl, ?_⟩
          exact ((((below_box b1).trans (((Below.refl _ w1).alloc (Nat.le_refl _) _ |>.trans (b3.mono (by simp))).mono (by omega))).setCell (Nat.le_refl _) _).setCell (Nat.le_refl _) _)
        · have HV : Hid (saysE s.data.toList = none) := by
            show saysE s.data.toList = none
            unfold saysE; rw [if_pos ht, hr]; simp [hin]
          clear hshort hr ht hR hb
          go_enter Tryz.func188, Tryz.ntmps188
          go_wp2_with (first
            | (go_at_call 189; refine (HE.out _).mono ?_; rintro e w1 ⟨rfl, b1⟩; rw [HR.out]; obtain ⟨c1, f1⟩ := bcell b1; have z1 : w.heap.size < w1.heap.size := by (have hq := b1.size; simp at hq; omega))
            | (go_at_call 53; refine (specInside_any _ _ _).mono ?_; rintro e w3 ⟨rfl, b3⟩; obtain ⟨c3, f3⟩ := bcell b3; have z3 : w1.heap.size < w3.heap.size := by (have hq := b3.size; simp at hq; omega)))
          obtain ⟨q0, q1, q2⟩ := set_two (w := w3) (b := w.heap.size) (x := .int .i64 0) (y := .int .i64 0) (.int .i64 0) (.int .i64 0) (by rw [c3 _ _ (by simp; omega), cell_alloc_lt z1, c1 _ _ (by simp)]; simp) (by rw [c3 _ _ (by simp; omega), cell_alloc_lt z1, c1 _ _ (by simp)]; simp)
          refine bodyPost_ret (v := .tuple #[.agg #[.int .i64 0, .int .i64 0], .bool false]) (by simp [results, Tryz.results188, go_sem, q1, q2]) rfl ⟨by rw [HV.out]; rfl, ?_⟩
          exact ((((below_box b1).trans (((Below.refl _ w1).alloc (Nat.le_refl _) _ |>.trans (b3.mono (by simp))).mono (by omega))).setCell (Nat.le_refl _) _).setCell (Nat.le_refl _) _)
    · have hq : (!(s.extract 0 5).toList == [112, 111, 114, 116, 32]) = true := by
        rw [Lib.toList_data, ext_take]; simpa [portL] using ht
      have HV : Hid (saysE s.data.toList = none) := by
        show saysE s.data.toList = none
        unfold saysE; rw [if_neg ht]
      clear hshort ht
      go_enter Tryz.func188, Tryz.ntmps188
      go_wp2_with fail
      refine bodyPost_ret (v := .tuple #[.agg #[.int .i64 0, .int .i64 0], .bool false]) (by simp [results, Tryz.results188, go_sem]) rfl ⟨by rw [HV.out]; rfl, ?_⟩
      exact (Below.refl _ _).alloc (Nat.le_refl _) _

set_option maxRecDepth 100000 in
set_option maxHeartbeats 800000 in
theorem specBox_any (s : ByteArray) (w : World) (hs : s.size ≤ 2097152) :
    Calls Tryz.prog 180 #[.string s] w fun e w' => e = .returned (boxV (boxE s.data.toList)) ∧ Below w.heap.size w w' := by
  have hshort : s.data.toList.take 5 = portL → 5 ≤ s.size := by
    intro h; have := congrArg List.length h; simp [portL] at this; omega
  by_cases h5 : s.size < 5
  · have HV : Hid (boxE s.data.toList = none) := by
      show boxE s.data.toList = none
      unfold boxE; rw [if_neg (fun h => by have := hshort h; omega)]
    clear hshort
    go_enter Tryz.func180, Tryz.ntmps180
    go_wp2_with fail
    go_ret2
    exact ⟨by rw [HV.out]; rfl, Below.refl _ _⟩
  · by_cases ht : s.data.toList.take 5 = portL
    · have hq : (!(s.extract 0 5).toList == [112, 111, 114, 116, 32]) = false := by
        rw [Lib.toList_data, ext_take, ht]; rfl
      have HE : Hid (∀ w, Calls Tryz.prog 189 #[.string (s.extract 5 s.size)] w fun e w' => e = .returned (rdS (s.data.toList.drop 5)) ∧ Below w.heap.size w w') := by
        intro w; have := specRead_any (s.extract 5 s.size) w (by simp; omega); rw [ext_drop] at this; exact this
      rcases hr : rdE (s.data.toList.drop 5) with _ | ⟨a, p⟩
      · have HV : Hid (boxE s.data.toList = none) := by
          show boxE s.data.toList = none
          unfold boxE; rw [if_pos ht, hr]
        have HR := Lib.hid (rdE_none hr)
        clear hshort hr ht
        go_enter Tryz.func180, Tryz.ntmps180
        go_wp2_with (go_at_call 189; refine (HE.out _).mono ?_; rintro e w1 ⟨rfl, b1⟩; rw [HR.out])
        go_ret2
        exact ⟨by rw [HV.out]; rfl, b1.alloc b1.size _⟩
      · obtain ⟨hR, hb⟩ := rdE_some hr
        have HR := Lib.hid hR
        by_cases hin : a = 50
        · have HV : Hid (boxE s.data.toList = some p) := by
            show boxE s.data.toList = some p
            unfold boxE; rw [if_pos ht, hr]; simp [hin]
          have hne : (a != 50) = false := by simp [hin]
          clear hshort hr ht hR hb hin
          go_enter Tryz.func180, Tryz.ntmps180
          go_wp2_with (go_at_call 189; refine (HE.out _).mono ?_; rintro e w1 ⟨rfl, b1⟩; rw [HR.out])
          go_ret2
          exact ⟨by rw [HV.out]; rfl, b1.alloc b1.size _⟩
        · have HV : Hid (boxE s.data.toList = none) := by
            show boxE s.data.toList = none
            unfold boxE; rw [if_pos ht, hr]; simp [hin]
          have hne : (a != 50) = true := by simp [hin]
          clear hshort hr ht hR hb hin
          go_enter Tryz.func180, Tryz.ntmps180
          go_wp2_with (go_at_call 189; refine (HE.out _).mono ?_; rintro e w1 ⟨rfl, b1⟩; rw [HR.out])
          go_ret2
          exact ⟨by rw [HV.out]; rfl, b1.alloc b1.size _⟩
    · have hq : (!(s.extract 0 5).toList == [112, 111, 114, 116, 32]) = true := by
        rw [Lib.toList_data, ext_take]; simpa [portL] using ht
      have HV : Hid (boxE s.data.toList = none) := by
        show boxE s.data.toList = none
        unfold boxE; rw [if_neg ht]
      clear hshort ht
      go_enter Tryz.func180, Tryz.ntmps180
      go_wp2_with fail
      go_ret2
      exact ⟨by rw [HV.out]; rfl, Below.refl _ _⟩

end Go.Proofs.YtglpijjkihpeeaaGreatDoor

/- l3Copy, MapPort and l3Put of the specification; l3Put where the end has a port or there is no room. Condition: the table has at most 2^22 ends. -/
namespace Go.Proofs.YtglpijjkihpeeaaGreatDoor
open Go.RowKit Go.Sort

theorem own_someform {w : World} {base : Nat} {e : TypeId} {size : Nat} {v : Value} {n : Nat} {xs : List Value} (h : w.ownsRow base e size v n xs) (hne : v ≠ .slice none 0 0) : ∃ g cap, v = .slice (some ⟨g, 0, none⟩) n cap ∧ base ≤ g := by
  rcases h.2 with ⟨h0, _⟩ | ⟨g, cap, _, hv, hb, _⟩
  · exact absurd h0 hne
  · exact ⟨g, cap, hv, hb⟩

set_option maxRecDepth 100000 in
set_option maxHeartbeats 800000 in
theorem specCopy_any (v : Value) (es : List (Int × Int)) (w : World) (hn : es.length ≤ 4194304) (ht : TabAt w v es) :
    Calls Tryz.prog 112 #[.agg #[v]] w fun e w' => ∃ g c, e = .returned (.agg #[.slice (some g) es.length c]) ∧ OwnTab w' w.heap.size (.slice (some g) es.length c) es ∧ Below w.heap.size w w' := by
  obtain ⟨i0, hi, hz0, hz1, hz2⟩ := info_parts infoEnd
  obtain ⟨ad, cap, rfl, hcap, hr⟩ := ht
  cases ad with
  | none =>
    have he : es = [] := by
      rcases es with _ | ⟨x, r⟩
      · rfl
      · obtain ⟨g, hg, _⟩ := hr (by simp); cases hg
    subst he
    clear hr
    have hz : cap = 0 := hcap.2 rfl
    subst hz
    have own0 : ∀ A B, (((w.alloc A).alloc B).alloc (.cells #[] 53)).ownsRow (w.heap.size + 2) 53 2 (.slice (some ⟨w.heap.size + 1 + 1, 0, none⟩) 0 0) 0 [] := by
      intro A B
      have := World.ownsRow_made (base := w.heap.size + 2) (e := 53) (size := 2) ((w.alloc A).alloc B) #[] 0 (by simp) (Nat.zero_le _) rfl
      simpa using this
    have HO := Lib.hid own0
    clear own0
    go_enter Tryz.func112, Tryz.ntmps112
    go_wp2_with (at_builtin; refine wpList_append_own_none rfl (.tmp 3) (.tmp 5) 25 rfl (w.heap.size + 2) 53 i0 2 Tryz.underlying25 hi _ 0 [] rfl (HO.out _ _) rfl ?_)
    refine bodyPost_ret (v := .agg #[.slice (some ⟨w.heap.size + 1 + 1, 0, none⟩) 0 0]) (by simp [results, Tryz.results112, go_sem]) rfl ⟨_, 0, rfl, ?_, ?_⟩
    · have := HO.out (.cells #[.slice none 0 0] 27) (.cells #[.slice (some ⟨w.heap.size + 1 + 1, 0, none⟩) 0 0] 27)
      exact OwnTab.mono (B := w.heap.size + 2) (by simpa [OwnTab, flatE] using this) (by omega)
    · exact ((((Below.refl _ _).alloc (Nat.le_refl _) _).alloc (by simp) _).alloc (by simp; omega) _)
  | some ad =>
    have hnews : ∀ (j : Nat) (u : Value), (flatE es)[j]? = some u → w.cell? (ad.add j) = some u := by
      intro j u hj
      by_cases h0 : es.length = 0
      · rw [List.eq_nil_of_length_eq_zero h0] at hj; simp [flatE] at hj
      · obtain ⟨g, e, hrow⟩ := hr (by omega)
        simp at e; subst e
        have := hrow.flat j u hj
        rw [show (⟨g, 0, none⟩ : Addr).add j = ⟨g, j, none⟩ from by simp [Addr.add]; omega]
        exact this
    have hlt : ∀ (j : Nat) (u : Value), (flatE es)[j]? = some u → (ad.add j).block < w.heap.size := fun j u hj => World.block_lt_of_cell? w _ (hnews j u hj)
    have own0 : ∀ A B, (((w.alloc A).alloc B).alloc (.cells #[] 53)).ownsRow (w.heap.size + 2) 53 2 (.slice (some ⟨w.heap.size + 1 + 1, 0, none⟩) 0 0) 0 [] := by
      intro A B
      have := World.ownsRow_made (base := w.heap.size + 2) (e := 53) (size := 2) ((w.alloc A).alloc B) #[] 0 (by simp) (Nat.zero_le _) rfl
      simpa using this
    have HO := Lib.hid own0
    clear own0
    have HNW := Lib.hid hnews
    have HLT := Lib.hid hlt
    clear hr hnews hlt
    go_enter Tryz.func112, Tryz.ntmps112
    go_wp2_with (at_builtin; refine wpList_append_own _ rfl (.tmp 3) (.tmp 5) 25 rfl (w.heap.size + 2) 53 i0 (.agg #[.int .i64 0, .int .i64 0]) 2 16 Tryz.underlying25 hi hz0 hz1 hz2 rfl (by decide) _ 0 [] rfl (HO.out _ _) ad es.length cap (flatE es) rfl ?c1 ?c2 ?c3 ?c4 ?c5 ?c6 ?_)
    case c1 => exact flatE_len es
    case c2 =>
      intro j u hj
      have hb := HLT.out j u hj
      rw [World.cell?_alloc_old _ _ _ (by simp; omega), World.cell?_alloc_old _ _ _ (by simp; omega), World.cell?_alloc_old _ _ _ (by omega)]
      exact HNW.out j u hj
    case c3 => exact flatE_one es
    case c4 => unfold maxLen; omega
    case c5 => omega
    case c6 => simp
    · intro v' w' hown hgrow hnil
      have hblk := hgrow.block (w.heap.size + 1) (by simp) (by simp [Value.ownBlock])
      have k0 : w'.cell? ⟨w.heap.size + 1, 0, none⟩ = some (.slice none 0 0) := by rw [World.cell?_of_block (a := ⟨w.heap.size + 1, 0, none⟩) hblk, (cell_second w _ _ _ _ 0).1]; rfl
      have r0 : w'.frozen? ⟨w.heap.size + 1, 0, none⟩ = false := by rw [World.frozen?_of_block (a := ⟨w.heap.size + 1, 0, none⟩) hblk]; exact (cell_second w _ _ _ _ 0).2
      have hbw : Below w.heap.size w w' := ((((Below.refl _ _).alloc (Nat.le_refl _) _).alloc (by simp) _).alloc (by simp; omega) _).grown hgrow (by simp; omega) (fun k hk => by simp [Value.ownBlock] at hk; omega)
      obtain ⟨a1, cap1, rfl⟩ : ∃ g c, v' = .slice (some g) es.length c := by
        obtain ⟨g, c, e, _⟩ := own_someform hown hnil
        exact ⟨_, _, e⟩
      have HG := Lib.hid hown
      clear hown hgrow hblk
      go_wp2
      refine bodyPost_ret (v := .agg #[.slice (some a1) es.length cap1]) (by simp [results, Tryz.results112, go_sem, World.cell?_setCell_same _ _ _ k0]) rfl ⟨_, _, rfl, ?_, hbw.setCell (by simp) _⟩
      have := ownsRow_setCell_below (a := ⟨w.heap.size + 1, 0, none⟩) HG.out (by simp) (.slice (some a1) es.length cap1)
      exact OwnTab.mono (B := w.heap.size + 2) (by simpa [OwnTab] using this) (by omega)

set_option maxRecDepth 100000 in
set_option maxHeartbeats 800000 in
theorem specPort_any (v : Value) (es : List (Int × Int)) (a p : Int) (w : World) (hn : es.length ≤ 4194304) (ht : TabAt w v es) :
    Calls Tryz.prog 113 #[.agg #[v], .agg #[.int .i64 a, .int .i64 p]] w fun e w' => e = .returned (.int .i64 (portI es (a, p))) ∧ Below w.heap.size w w' := by
  have HT := Lib.hid ht
  obtain ⟨ad, cap, rfl, hcap, hr⟩ := ht
  obtain ⟨f0, f1⟩ := findI_bounds es (a, p)
  have f2 : findI es (a, p) < 4194304 := by omega
  obtain ⟨k, hk⟩ : ∃ k, k = findI es (a, p) := ⟨_, rfl⟩
  have HF : Hid (∀ w, TabAt w (.slice ad es.length cap) es → Calls Tryz.prog 144 #[.agg #[.slice ad es.length cap], .agg #[.int .i64 a, .int .i64 p]] w fun e w' => e = .returned (.int .i64 k) ∧ Below w.heap.size w w') := fun w h => by rw [hk]; exact specFind_any _ es a p w hn h
  rw [← hk] at f0 f2
  have HP : Hid (portI es (a, p) = if k < 0 then 0 else 500 + k) := by show portI es (a, p) = _; rw [hk]; rfl
  clear hk f1 hr
  by_cases hneg : k < 0
  all_goals
    go_enter Tryz.func113, Tryz.ntmps113
    go_wp2_with (go_at_call 144; refine (HF.out _ (HT.out.below (((Below.refl _ _).alloc (Nat.le_refl _) _).alloc (by simp) _))).mono ?_; rintro e w1 ⟨rfl, b1⟩)
    go_ret
    refine ⟨ret_int ?_, (((Below.refl _ _).alloc (Nat.le_refl _) _).alloc (by simp) _).trans (b1.mono (by simp; omega))⟩
    rw [HP.out]
    first | rw [if_pos (by omega)] | rw [if_neg (by omega)]

set_option maxRecDepth 100000 in
set_option maxHeartbeats 1600000 in
/-- l3Put where the end has a port: the table as it is. -/
theorem specPut_has (ad : Addr) (cap : Nat) (es : List (Int × Int)) (a p : Int) (w : World) (hn : es.length ≤ 4194304) (ht : TabAt w (.slice (some ad) es.length cap) es) (hp : 0 < portI es (a, p)) :
    Calls Tryz.prog 57 #[.agg #[.slice (some ad) es.length cap], .agg #[.int .i64 a, .int .i64 p]] w fun e w' => e = .returned (.tuple #[.agg #[.slice (some ad) es.length cap], .int .i64 (portI es (a, p))]) ∧ Below w.heap.size w w' := by
  have HT := Lib.hid ht
  obtain ⟨k, hk⟩ : ∃ k, k = portI es (a, p) := ⟨_, rfl⟩
  have HP : Hid (∀ w, TabAt w (.slice (some ad) es.length cap) es → Calls Tryz.prog 113 #[.agg #[.slice (some ad) es.length cap], .agg #[.int .i64 a, .int .i64 p]] w fun e w' => e = .returned (.int .i64 k) ∧ Below w.heap.size w w') := fun w h => by rw [hk]; exact specPort_any _ es a p w hn h
  rw [← hk] at hp ⊢
  clear ht hk
  go_enter Tryz.func57, Tryz.ntmps57
  go_wp2_with (go_at_call 113; refine (HP.out _ (HT.out.below ((((Below.refl _ _).alloc (Nat.le_refl _) _).alloc (by simp) _).alloc (by simp; omega) _))).mono ?_; rintro e w1 ⟨rfl, b1⟩; obtain ⟨cA, cB, cC, b01, z1⟩ := cell_three b1; have a0 := (cA 0).1; have r0 := (cC 0).1; have g0 := (cC 0).2; simp at a0 r0)
  refine bodyPost_ret (v := .tuple #[.agg #[.slice (some ad) es.length cap], .int .i64 k]) (by simp [results, Tryz.results57, go_sem, World.cell?_setCell_same _ _ _ r0]) rfl ⟨rfl, ?_⟩
  exact b01.setCell (by simp; omega) _

set_option maxRecDepth 100000 in
set_option maxHeartbeats 1600000 in
/-- l3Put where there is no room: the table as it is, and 0. -/
theorem specPut_full (ad : Addr) (cap : Nat) (es : List (Int × Int)) (a p : Int) (w : World) (hn : es.length ≤ 4194304) (ht : TabAt w (.slice (some ad) es.length cap) es) (hp : portI es (a, p) = 0) (h6 : es.length = 6) :
    Calls Tryz.prog 57 #[.agg #[.slice (some ad) es.length cap], .agg #[.int .i64 a, .int .i64 p]] w fun e w' => e = .returned (.tuple #[.agg #[.slice (some ad) es.length cap], .int .i64 0]) ∧ Below w.heap.size w w' := by
  have HT := Lib.hid ht
  have HP : Hid (∀ w, TabAt w (.slice (some ad) es.length cap) es → Calls Tryz.prog 113 #[.agg #[.slice (some ad) es.length cap], .agg #[.int .i64 a, .int .i64 p]] w fun e w' => e = .returned (.int .i64 0) ∧ Below w.heap.size w w') := fun w h => by rw [← hp]; exact specPort_any _ es a p w hn h
  have h6' : ((es.length : Int) == 6) = true := by simp; omega
  clear ht hp h6
  go_enter Tryz.func57, Tryz.ntmps57
  go_wp2_with (go_at_call 113; refine (HP.out _ (HT.out.below ((((Below.refl _ _).alloc (Nat.le_refl _) _).alloc (by simp) _).alloc (by simp; omega) _))).mono ?_; rintro e w1 ⟨rfl, b1⟩; obtain ⟨cA, cB, cC, b01, z1⟩ := cell_three b1; have a0 := (cA 0).1; have r0 := (cC 0).1; have g0 := (cC 0).2; simp at a0 r0)
  refine bodyPost_ret (v := .tuple #[.agg #[.slice (some ad) es.length cap], .int .i64 0]) (by simp [results, Tryz.results57, go_sem, World.cell?_setCell_same _ _ _ r0]) rfl ⟨rfl, ?_⟩
  exact b01.setCell (by simp; omega) _

end Go.Proofs.YtglpijjkihpeeaaGreatDoor

/- l3Put of the specification where there is room. Condition: the table has at most 2^22 ends and lies at an address. -/
namespace Go.Proofs.YtglpijjkihpeeaaGreatDoor
open Go.RowKit Go.Sort

theorem heap_last (w : World) (o : Obj) : (w.alloc o).heap[w.heap.size]? = some o := by
  show (w.heap.push o)[w.heap.size]? = _
  simp
theorem heap_lastd {w : World} {k : Nat} (o : Obj) (h : k = w.heap.size) : (w.alloc o).drew.heap[k]? = some o := by subst h; exact heap_last w o
theorem heap_last2d {w : World} (o o' : Obj) : ((w.alloc o).alloc o').drew.heap[w.heap.size]? = some o := (Below.heap_alloc (w.alloc o) o' _ (by simp)).trans (heap_last w o)

/-- append onto a slice of the call's own that is not nil, at a step of a region that draws its order: whatever the number that comes, none too. -/
theorem step_append_some {P : Program} (w : World) {ops : Array Oper} {o : Oper} {a : Act} {K : Act → World → Prop} {Q : Exit → Act → World → Prop} {E : Prop} (hgd : o.guard = none) (s x : Operand) (t : TypeId)
    (ho : o.op = .call { callee := .builtin .append, args := #[s, x], argTypes := #[t, t] })
    (base : Nat) (e : TypeId) (i : TypeInfo) (z : Value) (size bytes : Nat) (ht : P.underlying t = some (.slice e)) (hi : P.info? e = some i) (hz : i.zero = some z)
    (hsize : i.size = size) (hby : i.bytes = bytes) (hzs : z.cells.size = size) (hsz : 0 < size)
    (v : Value) (n : Nat) (xs : List Value) (hs : a.eval s = v) (hown : w.ownsRow base e size v n xs) (hne : v ≠ .slice none 0 0)
    (ad : Addr) (m c : Nat) (news : List Value) (hx : a.eval x = .slice (some ad) m c) (hl : news.length = m * size) (hnews : ∀ j u, news[j]? = some u → w.cell? (ad.add j) = some u) (h1 : ∀ u ∈ news, u.oneCell' = true)
    (h63 : n + m ≤ maxLen) (hbytes : (n + m) * bytes ≤ 140737488355328) (hbase : base ≤ w.heap.size)
    (h : ∀ g cap w', w'.ownsRow base e size (.slice (some ⟨g, 0, none⟩) (n + m) cap) (n + m) (xs ++ news) → w.grownBy w' v.ownBlock → base ≤ g → K (a.put o.dst (.slice (some ⟨g, 0, none⟩) (n + m) cap)) w') :
    if Region.wanted o (yielded ops a.tmps) = true then Oper.wp P o a w K Q else E := by
  have hw : Region.wanted o (yielded ops a.tmps) = true := by simp [Region.wanted, hgd]
  rw [if_pos hw]
  obtain ⟨v', w', hr, h2, h3, h4, _⟩ := run_append_own_at (P := P) w base t o.type e i z size bytes ht hi hz hsize hby hzs hsz v n xs hown ad m c news hl hnews h1 h63 hbytes hbase
  obtain ⟨g, cap, rfl, hb⟩ := own_someform h2 (fun hv => hne (h4.1 hv).1)
  unfold Oper.wp execOp
  simp only [ho, resolve, invoke, builtin, Sem.run_bind, Sem.run_pure, Result.andThen_ok, List.map_toArray, List.map_cons, List.map_nil, hs, hx, hr]
  exact h g cap w' h2 h3 hb

set_option maxRecDepth 100000 in
set_option maxHeartbeats 3200000 in
/-- l3Put where there is room: the end behind all, in a table of the call's own. -/
theorem specPut_new (ad : Addr) (cap : Nat) (es : List (Int × Int)) (a p : Int) (w : World) (hn : es.length ≤ 4194304) (ht : TabAt w (.slice (some ad) es.length cap) es) (hp : portI es (a, p) = 0) (h6 : es.length ≠ 6) :
    Calls Tryz.prog 57 #[.agg #[.slice (some ad) es.length cap], .agg #[.int .i64 a, .int .i64 p]] w fun e w' => ∃ g c, e = .returned (.tuple #[.agg #[.slice (some g) (es.length + 1) c], .int .i64 (500 + (es.length : Int))]) ∧ OwnTab w' w.heap.size (.slice (some g) (es.length + 1) c) (es ++ [(a, p)]) ∧ Below w.heap.size w w' := by
  have HT := Lib.hid ht
  have HP : Hid (∀ w, TabAt w (.slice (some ad) es.length cap) es → Calls Tryz.prog 113 #[.agg #[.slice (some ad) es.length cap], .agg #[.int .i64 a, .int .i64 p]] w fun e w' => e = .returned (.int .i64 0) ∧ Below w.heap.size w w') := fun w h => by rw [← hp]; exact specPort_any _ es a p w hn h
  obtain ⟨i0, hi, hz0, hz1, hz2⟩ := info_parts infoEnd
  have h6' : ((es.length : Int) == 6) = false := by simp; omega
  clear ht hp h6
  go_enter Tryz.func57, Tryz.ntmps57
  go_upto_region 6 with (go_at_call 113; refine (HP.out _ (HT.out.below ((((Below.refl _ _).alloc (Nat.le_refl _) _).alloc (by simp) _).alloc (by simp <;> omega) _))).mono ?_; rintro e w1 ⟨rfl, b1⟩; obtain ⟨cA, cB, cC, b01, z1⟩ := cell_three b1; have a0 := (cA 0).1; have s0 := (cA 0).2; have e0 := (cB 0).1; have e1 := (cB 1).1; have r0 := (cC 0).1; have g0 := (cC 0).2; simp at a0 e0 e1 r0)
  have HTW : Hid (TabAt w1 (.slice (some ad) es.length cap) es) := HT.out.below b01
  have hsrc : Hid (∀ wx, Below w1.heap.size w1 wx → ∀ (j : Nat) (u : Value), (flatE es)[j]? = some u → wx.cell? (ad.add j) = some u) := by
    intro wx hb j u hj
    have h1 : 0 < es.length := by
      rcases es with _ | ⟨x, r⟩
      · simp [flatE] at hj
      · simp
    obtain ⟨a', cap', e', _, hr⟩ := HTW.out
    simp at e'
    obtain ⟨g, e, hrow⟩ := hr h1
    rw [← e'.1] at e
    simp at e; subst e
    rw [show (⟨g, 0, none⟩ : Addr).add j = ⟨g, j, none⟩ from by simp [Addr.add]; omega, hb.cell (p := ⟨g, j, none⟩) (hrow.lt h1)]
    exact hrow.flat j u hj
  have own0 : Hid (∀ wx : World, w1.heap.size ≤ wx.heap.size → (wx.alloc (.cells #[] 53)).ownsRow w1.heap.size 53 2 (.slice (some ⟨wx.heap.size, 0, none⟩) 0 0) 0 []) :=
    fun wx h => World.ownsRow_made wx #[] 0 h (Nat.zero_le _) rfl
  have B0 : Hid (Below w.heap.size w w1) := b01
  clear b1 cA cB cC b01
  have a0x : ∀ o, (w1.alloc o).cell? ⟨w.heap.size, 0, none⟩ = some (.slice (some ad) es.length cap) := fun o => by rw [cell_alloc_lt (by omega)]; exact a0
  have a0y : ∀ o o', ((w1.alloc o).alloc o').cell? ⟨w.heap.size, 0, none⟩ = some (.slice (some ad) es.length cap) := fun o o' => by rw [cell_alloc_lt (by simp <;> omega), cell_alloc_lt (by omega)]; exact a0
  have e0x : ∀ o, (w1.alloc o).cell? ⟨w.heap.size + 1, 0, none⟩ = some (.int .i64 a) := fun o => by rw [cell_alloc_lt (by omega)]; exact e0
  have e0y : ∀ o o', ((w1.alloc o).alloc o').cell? ⟨w.heap.size + 1, 0, none⟩ = some (.int .i64 a) := fun o o' => by rw [cell_alloc_lt (by simp <;> omega), cell_alloc_lt (by omega)]; exact e0
  have e1x : ∀ o, (w1.alloc o).cell? ⟨w.heap.size + 1, 1, none⟩ = some (.int .i64 p) := fun o => by rw [cell_alloc_lt (by omega)]; exact e1
  have e1y : ∀ o o', ((w1.alloc o).alloc o').cell? ⟨w.heap.size + 1, 1, none⟩ = some (.int .i64 p) := fun o o' => by rw [cell_alloc_lt (by simp <;> omega), cell_alloc_lt (by omega)]; exact e1
  have own1 : Hid (((w1.alloc (.cells #[] 53)).drew).ownsRow w1.heap.size 53 2 (.slice (some ⟨w1.heap.size, 0, none⟩) 0 0) 0 []) := (own0.out w1 (Nat.le_refl _)).drew
  have own2 : Hid (∀ o, (((w1.alloc (.cells #[] 53)).alloc o).drew).ownsRow w1.heap.size 53 2 (.slice (some ⟨w1.heap.size, 0, none⟩) 0 0) 0 []) := fun o => ((own0.out w1 (Nat.le_refl _)).alloc o).drew
  have own3 : Hid (∀ o, (((w1.alloc o).alloc (.cells #[] 53)).drew).ownsRow w1.heap.size 53 2 (.slice (some ⟨w1.heap.size + 1, 0, none⟩) 0 0) 0 []) := fun o => by have := (own0.out (w1.alloc o) (by simp)).drew; simpa using this
  have bl1 : Hid (∀ o, Below w1.heap.size w1 ((w1.alloc o).drew)) := fun o => ((Below.refl _ _).alloc (Nat.le_refl _) _).drew
  have bl2 : Hid (∀ o o', Below w1.heap.size w1 (((w1.alloc o).alloc o').drew)) := fun o o' => ((((Below.refl _ _).alloc (Nat.le_refl _) _).alloc (by simp) _)).drew
  go_cut [] (fun wx => ∃ g c : Nat, wx.cell? ⟨w.heap.size, 0, none⟩ = some (.slice (some ⟨g, 0, none⟩) (es.length + 1) c) ∧ wx.cell? ⟨w.heap.size + 1 + 1, 0, none⟩ = some (.slice none 0 0) ∧ wx.frozen? ⟨w.heap.size + 1 + 1, 0, none⟩ = false ∧ wx.ownsRow w1.heap.size 53 2 (.slice (some ⟨g, 0, none⟩) (es.length + 1) c) (es.length + 1) (flatE (es ++ [(a, p)])) ∧ Below w.heap.size w wx)
  case first =>
    go_region_law (first
      | ((refine step_append_some _ rfl (.tmp 19) (.tmp 21) 25 rfl w1.heap.size 53 i0 (.agg #[.int .i64 0, .int .i64 0]) 2 16 Tryz.underlying25 hi hz0 hz1 hz2 rfl (by decide) (.slice (some ⟨w1.heap.size, 0, none⟩) 0 0) 0 [] (by rfl) (by first | exact own1.out | exact own2.out _ | exact own3.out _) (by simp) ad es.length cap (flatE es) (by rfl) (flatE_len es) (hsrc.out _ (by first | exact bl1.out _ | exact bl2.out _ _)) (flatE_one es) (by unfold maxLen; omega) (by omega) (by simp <;> omega) ?_)
         intro g1 c1 w2 hown1 hgrow1 hg1
         have hb2 : Below w1.heap.size w1 w2 := by first | exact (bl1.out _).grown hgrow1 (by simp) (fun k hk => by simp [Value.ownBlock] at hk; omega) | exact (bl2.out _ _).grown hgrow1 (by simp <;> omega) (fun k hk => by simp [Value.ownBlock] at hk; omega)
         try (have n5 : ∀ (j : Nat) (u : Value), [Value.int .i64 a, .int .i64 p][j]? = some u → w2.cell? ((⟨w1.heap.size + 1, 0, none⟩ : Addr).add j) = some u := World.news_of_block (cs := #[.int .i64 a, .int .i64 p]) (t := 53) (by rw [hgrow1.block (w1.heap.size + 1) (by simp) (by simp [Value.ownBlock])]; exact heap_lastd _ (by simp)))
         try (have n5 : ∀ (j : Nat) (u : Value), [Value.int .i64 a, .int .i64 p][j]? = some u → w2.cell? ((⟨w1.heap.size, 0, none⟩ : Addr).add j) = some u := World.news_of_block (cs := #[.int .i64 a, .int .i64 p]) (t := 53) (by rw [hgrow1.block w1.heap.size (by simp <;> omega) (by simp [Value.ownBlock])]; exact heap_last2d _ _))
         simp only [Nat.zero_add, List.nil_append] at hown1 ⊢
         have hs2 : w1.heap.size ≤ w2.heap.size := hb2.size
         have a0z : w2.cell? ⟨w.heap.size, 0, none⟩ = some (.slice (some ad) es.length cap) := by rw [hb2.cell (by simp <;> omega)]; exact a0
         have e0z : w2.cell? ⟨w.heap.size + 1, 0, none⟩ = some (.int .i64 a) := by rw [hb2.cell (by simp <;> omega)]; exact e0
         have e1z : w2.cell? ⟨w.heap.size + 1, 1, none⟩ = some (.int .i64 p) := by rw [hb2.cell (by simp <;> omega)]; exact e1)
      | ((refine step_append_some _ rfl (.tmp 19) (.tmp 21) 25 rfl w1.heap.size 53 i0 (.agg #[.int .i64 0, .int .i64 0]) 2 16 Tryz.underlying25 hi hz0 hz1 hz2 rfl (by decide) (.slice (some ⟨w1.heap.size + 1, 0, none⟩) 0 0) 0 [] (by rfl) (by first | exact own1.out | exact own2.out _ | exact own3.out _) (by simp) ad es.length cap (flatE es) (by rfl) (flatE_len es) (hsrc.out _ (by first | exact bl1.out _ | exact bl2.out _ _)) (flatE_one es) (by unfold maxLen; omega) (by omega) (by simp <;> omega) ?_)
         intro g1 c1 w2 hown1 hgrow1 hg1
         have hb2 : Below w1.heap.size w1 w2 := by first | exact (bl1.out _).grown hgrow1 (by simp) (fun k hk => by simp [Value.ownBlock] at hk; omega) | exact (bl2.out _ _).grown hgrow1 (by simp <;> omega) (fun k hk => by simp [Value.ownBlock] at hk; omega)
         try (have n5 : ∀ (j : Nat) (u : Value), [Value.int .i64 a, .int .i64 p][j]? = some u → w2.cell? ((⟨w1.heap.size + 1, 0, none⟩ : Addr).add j) = some u := World.news_of_block (cs := #[.int .i64 a, .int .i64 p]) (t := 53) (by rw [hgrow1.block (w1.heap.size + 1) (by simp) (by simp [Value.ownBlock])]; exact heap_lastd _ (by simp)))
         try (have n5 : ∀ (j : Nat) (u : Value), [Value.int .i64 a, .int .i64 p][j]? = some u → w2.cell? ((⟨w1.heap.size, 0, none⟩ : Addr).add j) = some u := World.news_of_block (cs := #[.int .i64 a, .int .i64 p]) (t := 53) (by rw [hgrow1.block w1.heap.size (by simp <;> omega) (by simp [Value.ownBlock])]; exact heap_last2d _ _))
         simp only [Nat.zero_add, List.nil_append] at hown1 ⊢
         have hs2 : w1.heap.size ≤ w2.heap.size := hb2.size
         have a0z : w2.cell? ⟨w.heap.size, 0, none⟩ = some (.slice (some ad) es.length cap) := by rw [hb2.cell (by simp <;> omega)]; exact a0
         have e0z : w2.cell? ⟨w.heap.size + 1, 0, none⟩ = some (.int .i64 a) := by rw [hb2.cell (by simp <;> omega)]; exact e0
         have e1z : w2.cell? ⟨w.heap.size + 1, 1, none⟩ = some (.int .i64 p) := by rw [hb2.cell (by simp <;> omega)]; exact e1)
      | ((refine step_append_some _ rfl (.tmp 22) (.tmp 24) 25 rfl w1.heap.size 53 i0 (.agg #[.int .i64 0, .int .i64 0]) 2 16 Tryz.underlying25 hi hz0 hz1 hz2 rfl (by decide) (.slice (some ⟨g1, 0, none⟩) es.length c1) es.length (flatE es) (by rfl) (by first | exact hown1 | exact hown1.alloc _) (by simp) _ 1 1 [.int .i64 a, .int .i64 p] (by rfl) rfl (by first | exact n5 | exact World.news_of_block (cs := #[.int .i64 a, .int .i64 p]) (t := 53) (heap_last w2 _)) (by intro u hu; simp at hu; rcases hu with rfl | rfl <;> rfl) (by unfold maxLen; omega) (by omega) (by first | exact hs2 | (simp; omega)) ?_)
         intro g2 c2 w3 hown2 hgrow2 hg2
         have hb3 : Below w1.heap.size w1 w3 := by first | exact hb2.grown hgrow2 hs2 (fun k hk => by simp [Value.ownBlock] at hk; omega) | exact (hb2.alloc hs2 _).grown hgrow2 (by simp <;> omega) (fun k hk => by simp [Value.ownBlock] at hk; omega)
         have a0v : w3.cell? ⟨w.heap.size, 0, none⟩ = some (.slice (some ad) es.length cap) := by rw [hb3.cell (by simp <;> omega)]; exact a0
         have s0v : w3.frozen? ⟨w.heap.size, 0, none⟩ = false := by rw [hb3.frozen (by simp <;> omega)]; exact s0))
    all_goals
      go_wp2_with fail
      go_meet
      refine ⟨g2, c2, World.cell?_setCell_same _ _ _ a0v, ?_, ?_, ?_, ?_⟩
      · rw [World.cell?_setCell_far w3 ⟨w.heap.size, 0, none⟩ ⟨w.heap.size + 1 + 1, 0, none⟩ _ (by show w.heap.size ≠ w.heap.size + 1 + 1; omega), hb3.cell (by simp; omega)]; exact r0
      · rw [World.frozen?_setCell, hb3.frozen (by simp; omega)]; exact g0
      · rw [flatE_app]; exact ownsRow_setCell_below (a := ⟨w.heap.size, 0, none⟩) hown2 (by simp; omega) _
      · exact (B0.out.trans (hb3.mono (by omega))).setCell (by simp) _
  case rest =>
    obtain ⟨g, c, k0, k1, k2, kown, kb⟩ := hcut
    have KO := Lib.hid kown
    have KB := Lib.hid kb
    clear kown kb own1 own2 own3 bl1 bl2 own0 hsrc HTW HT HP
    go_upto_region 7 with fail
    go_region
    all_goals go_wp2_with fail
    all_goals
      refine bodyPost_ret (v := .tuple #[.agg #[.slice (some ⟨g, 0, none⟩) (es.length + 1) c], .int .i64 (500 + ((es.length : Int) + 1) - 1)]) (by simp [results, Tryz.results57, go_sem, World.cell?_setCell_same _ _ _ k1]) rfl ⟨_, _, by rw [show (500 + ((es.length : Int) + 1) - 1) = 500 + (es.length : Int) from by omega], ?_, ?_⟩
      · have := (ownsRow_setCell_below (a := ⟨w.heap.size + 1 + 1, 0, none⟩) KO.out (by simp; omega) (.slice (some ⟨g, 0, none⟩) (es.length + 1) c)).drew
        exact OwnTab.mono (B := w1.heap.size) (by simpa [OwnTab] using this) (by omega)
      · exact (KB.out.setCell (by simp; omega) _).drew

end Go.Proofs.YtglpijjkihpeeaaGreatDoor

/- l3Put, MapEnd and MapPut of the specification. Condition: the table has at most 2^22 ends. -/
namespace Go.Proofs.YtglpijjkihpeeaaGreatDoor
open Go.RowKit Go.Sort

theorem portI_zero {es : List (Int × Int)} {e : Int × Int} (h : ¬ 0 < portI es e) : portI es e = 0 := by
  have := (findI_bounds es e).1
  unfold portI at *
  split <;> simp_all <;> omega

theorem specPut_any (B : Nat) (ad : Addr) (cap : Nat) (es : List (Int × Int)) (a p : Int) (w : World) (hn : es.length ≤ 4194304) (hB : B ≤ w.heap.size) (ho : OwnTab w B (.slice (some ad) es.length cap) es) :
    Calls Tryz.prog 57 #[.agg #[.slice (some ad) es.length cap], .agg #[.int .i64 a, .int .i64 p]] w fun e w' => ∃ g c, e = .returned (.tuple #[.agg #[.slice (some g) (putE es (a, p)).1.length c], .int .i64 (putE es (a, p)).2]) ∧ OwnTab w' B (.slice (some g) (putE es (a, p)).1.length c) (putE es (a, p)).1 ∧ Below w.heap.size w w' := by
  by_cases h : 0 < portI es (a, p)
  · rw [show putE es (a, p) = (es, portI es (a, p)) from if_pos h]
    refine (specPut_has ad cap es a p w hn ho.tab h).mono ?_
    rintro e w' ⟨rfl, hb⟩
    exact ⟨_, _, rfl, ho.below hb, hb⟩
  · have h0 := portI_zero h
    by_cases h6 : es.length = 6
    · rw [show putE es (a, p) = (es, 0) from by unfold putE; rw [if_neg h, if_pos h6]]
      refine (specPut_full ad cap es a p w hn ho.tab h0 h6).mono ?_
      rintro e w' ⟨rfl, hb⟩
      exact ⟨_, _, rfl, ho.below hb, hb⟩
    · rw [show putE es (a, p) = (es ++ [(a, p)], 500 + (es.length : Int)) from by unfold putE; rw [if_neg h, if_neg h6]]
      refine (specPut_new ad cap es a p w hn ho.tab h0 h6).mono ?_
      rintro e w' ⟨g, c, rfl, h1, hb⟩
      exact ⟨g, c, by simp, by simpa using h1.mono hB, hb⟩

set_option maxRecDepth 100000 in
set_option maxHeartbeats 800000 in
theorem specMapEnd_any (v : Value) (es : List (Int × Int)) (port : Int) (w : World) (hn : es.length ≤ 4194304) (ht : TabAt w v es) :
    Calls Tryz.prog 56 #[.agg #[v], .int .i64 port] w fun e w' => e = .returned (endV (endI es port)) ∧ Below w.heap.size w w' := by
  obtain ⟨ad, cap, rfl, hcap, hr⟩ := ht
  have HR := Lib.hid hr
  clear hr
  by_cases hin : 500 ≤ port ∧ port ≤ 500 + (es.length : Int) - 1
  · have hI : inB port 500 (500 + (es.length : Int) - 1) = true := by unfold inB; simp; omega
    obtain ⟨k, hk⟩ : ∃ k : Nat, port = 500 + (k : Int) := ⟨(port - 500).toNat, by omega⟩
    subst hk
    have hlt : k < es.length := by omega
    obtain ⟨g, rfl, hrow⟩ := HR.out (by omega)
    obtain ⟨r0, r1⟩ := hrow k hlt
    obtain ⟨⟨a, p⟩, hap⟩ : ∃ x, x = es[k] := ⟨_, rfl⟩
    have hE : Hid (endI es (500 + (k : Int)) = some (a, p)) := by
      show endI es (500 + (k : Int)) = _
      unfold endI
      rw [if_pos hin, show (500 + (k : Int) - 500).toNat = k from by omega, List.getElem?_eq_getElem hlt, hap]
    rw [← hap] at r0 r1
    simp only at r0 r1
    have hg : g < w.heap.size := hrow.lt (by omega)
    have hI' := Lib.hid hI
    have hk2 : (k : Int) ≤ (cap : Int) := by have := hcap.1; omega
    have K0 : ∀ o o', ((w.alloc o).alloc o').cell? ⟨g, k * 2, none⟩ = some (.int .i64 a) := fun o o' => by rw [cell_alloc_lt (by simp; omega), cell_alloc_lt hg]; exact r0
    have K1 : ∀ o o', ((w.alloc o).alloc o').cell? ⟨g, k * 2 + 1, none⟩ = some (.int .i64 p) := fun o o' => by rw [cell_alloc_lt (by simp; omega), cell_alloc_lt hg]; exact r1
    have hk5 : (500 + (k : Int) - 500) = (k : Int) := by omega
    clear hrow HR hap hI r0 r1 hin
    go_enter Tryz.func56, Tryz.ntmps56
    go_wp2_with (go_at_call 44; refine (specIn_any _ _ _ _).mono ?_; rintro e w' ⟨rfl, rfl⟩; have hi2 := hI'.out)
    refine bodyPost_ret (v := .tuple #[.agg #[.int .i64 a, .int .i64 p], .bool true]) (by simp [results, Tryz.results56, go_sem]) rfl ⟨by rw [hE.out]; rfl, ?_⟩
    exact (((Below.refl _ _).alloc (Nat.le_refl _) _).alloc (by simp) _)
  · have hI : inB port 500 (500 + (es.length : Int) - 1) = false := by unfold inB; simp; omega
    have hE : Hid (endI es port = none) := by show endI es port = _; unfold endI; rw [if_neg hin]
    clear hin HR
    go_enter Tryz.func56, Tryz.ntmps56
    go_wp2_with (go_at_call 44; refine (specIn_any _ _ _ _).mono ?_; rintro e w' ⟨rfl, rfl⟩)
    refine bodyPost_ret (v := .tuple #[.agg #[.int .i64 0, .int .i64 0], .bool false]) (by simp [results, Tryz.results56, go_sem]) rfl ⟨by rw [hE.out]; rfl, ?_⟩
    exact (((Below.refl _ _).alloc (Nat.le_refl _) _).alloc (by simp) _)

end Go.Proofs.YtglpijjkihpeeaaGreatDoor

/- LinOk of the specification, at every text. Condition: the text has at most 2^48 bytes. -/
namespace Go.Proofs.YtglpijjkihpeeaaGreatDoor
open Go.RowKit

set_option maxRecDepth 100000 in
set_option maxHeartbeats 800000 in
theorem specByte_any (c : UInt8) (w : World) :
    Calls Tryz.prog 111 #[.int .u8 (c.toNat : Int)] w fun e w' => e = .returned (.bool (byteB c)) ∧ w = w' := by
  by_cases h1 : 97 ≤ c.toNat <;> by_cases h2 : c.toNat ≤ 122 <;> by_cases h3 : 48 ≤ c.toNat <;> by_cases h4 : c.toNat ≤ 57 <;> by_cases h5 : c.toNat = 32 <;>
    first
    | (exfalso; omega)
    | (have h6 : ((c.toNat : Int) == 32) = decide (c.toNat = 32) := by (rw [Bool.eq_iff_iff]; simp; omega)
       simp only [h5, decide_true, decide_false] at h6
       go_enter Tryz.func111, Tryz.ntmps111
       go_wp2
       go_ret
       exact ⟨by (simp [byteB, h1, h2, h3, h4, h5] <;> omega), rfl⟩)

set_option maxRecDepth 100000 in
set_option maxHeartbeats 800000 in
theorem specLin_any (s : ByteArray) (w : World) (hs : s.size ≤ 281474976710656) :
    Calls Tryz.prog 166 #[.string s] w fun e w' => e = .returned (.bool (linB s.data.toList)) ∧ w = w' := by
  by_cases h16 : 16 < s.size
  · go_enter Tryz.func166, Tryz.ntmps166
    go_wp2_with fail
    go_ret
    exact ⟨ret_bool (by unfold linB; rw [len_list, decide_eq_false (by omega)]; rfl), rfl⟩
  · go_enter Tryz.func166, Tryz.ntmps166
    go_wp2_with fail
    go_loop [3] (fun i => ∃ k : Nat, k ≤ s.size ∧ i = .int .i64 k ∧ (∀ c ∈ s.data.toList.take k, byteB c = true)) (fun i => s.size - (intOf i).toNat)
    case atStart => exact ⟨0, Nat.zero_le _, rfl, by simp⟩
    case round =>
      obtain ⟨k, hk, rfl, hd⟩ := hrel
      have HD := Lib.hid hd
      clear hd
      by_cases hlt : k < s.size
      · have HT : Hid (s.data.toList.take (k + 1) = s.data.toList.take k ++ [s[k]]) := take_snoc s k hlt
        by_cases hb : byteB s[k] = true
        · have HB := Lib.hid hb
          go_wp2_with (go_at_call 111; refine (specByte_any _ _).mono ?_; rintro e w' ⟨rfl, rfl⟩)
          go_round
          case rel =>
            refine ⟨k + 1, by omega, by go_num, ?_⟩
            rw [HT.out]; intro c hc
            rcases List.mem_append.1 hc with hc | hc
            · exact HD.out c hc
            · simp at hc; subst hc; exact HB.out
          case measure => simp [intOf]; omega
        · have HB : Hid (linB s.data.toList = false) := by
            unfold linB
            have : s.data.toList.all byteB = false := by
              rw [List.all_eq_false]; exact ⟨s[k], mem_at s k hlt, hb⟩
            show (_ && _) = false
            rw [this]; simp
          go_wp2_with (go_at_call 111; refine (specByte_any _ _).mono ?_; rintro e w' ⟨rfl, rfl⟩)
          go_ret
          exact ⟨ret_bool HB.out.symm, rfl⟩
      · have HL : Hid (linB s.data.toList = true) := by
          have he : s.data.toList.take k = s.data.toList := List.take_of_length_le (by rw [len_list]; omega)
          show (_ && _) = true
          rw [len_list, decide_eq_true (by omega), ← he, List.all_eq_true.2 HD.out]; rfl
        go_wp2_with fail
        go_ret
        exact ⟨ret_bool HL.out.symm, rfl⟩

end Go.Proofs.YtglpijjkihpeeaaGreatDoor

/- BakLine of the specification: a line as it goes inside, by a table. Conditions: at most 2^22 ends; the text has at most 2^21 bytes. -/
namespace Go.Proofs.YtglpijjkihpeeaaGreatDoor
open Go.RowKit

/-- A line as it goes inside; nothing of what is no table or no line. -/
def backE (es : List (Int × Int)) (l : List UInt8) : List UInt8 := match boxE l with | none => l | some p => match endI es p with | none => l | some (a, q) => lpL a q
def bakE (es : List (Int × Int)) (l : List UInt8) : List UInt8 := if mapB es = true ∧ linB l = true then backE es l else []
theorem str_same (s : ByteArray) : (⟨s.data.toList.toArray⟩ : ByteArray) = s := Lib.mk_data s
theorem box1 {w w1 : World} {v : Value} {t : TypeId} (hb : Below (w.alloc (.cells #[v] t)).heap.size (w.alloc (.cells #[v] t)) w1) : w1.cell? ⟨w.heap.size, 0, none⟩ = some v := by
  rw [hb.cell (p := ⟨w.heap.size, 0, none⟩) (by simp), (cell_new w #[v] t 0).1]; rfl

set_option maxRecDepth 100000 in
set_option maxHeartbeats 1600000 in
theorem specBack_any (v : Value) (es : List (Int × Int)) (s : ByteArray) (w : World) (hn : es.length ≤ 4194304) (hs : s.size ≤ 2097152) (ht : TabAt w v es) :
    Calls Tryz.prog 168 #[.agg #[v], .string s] w fun e w' => e = .returned (.string ⟨(backE es s.data.toList).toArray⟩) ∧ Below w.heap.size w w' := by
  have HT := Lib.hid ht
  obtain ⟨ad, cap, rfl, hcap, hr⟩ := ht
  clear hr hcap
  rcases hb : boxE s.data.toList with _ | p
  · have HB : Hid (∀ w, Calls Tryz.prog 180 #[.string s] w fun e w' => e = .returned (.tuple #[.int .i64 0, .bool false]) ∧ Below w.heap.size w w') := fun w => by have := specBox_any s w hs; rw [hb] at this; exact this
    have HE : Hid (backE es s.data.toList = s.data.toList) := by show backE _ _ = _; unfold backE; rw [hb]
    clear hb
    go_enter Tryz.func168, Tryz.ntmps168
    go_wp2_with fail
    (go_at_call 180; refine (HB.out _).mono ?_; rintro e w1 ⟨rfl, b1⟩)
    go_wp2_with fail
    go_ret
    exact ⟨by rw [HE.out, str_same]; rfl, below_box b1⟩
  · have HB : Hid (∀ w, Calls Tryz.prog 180 #[.string s] w fun e w' => e = .returned (.tuple #[.int .i64 p, .bool true]) ∧ Below w.heap.size w w') := fun w => by have := specBox_any s w hs; rw [hb] at this; exact this
    rcases hi : endI es p with _ | ⟨a, q⟩
    · have HE : Hid (backE es s.data.toList = s.data.toList) := by show backE _ _ = _; unfold backE; rw [hb]; simp only [hi]
      have HM : Hid (∀ w, TabAt w (.slice ad es.length cap) es → Calls Tryz.prog 56 #[.agg #[.slice ad es.length cap], .int .i64 p] w fun e w' => e = .returned (.tuple #[.agg #[.int .i64 0, .int .i64 0], .bool false]) ∧ Below w.heap.size w w') := fun w h => by have := specMapEnd_any _ es p w hn h; rw [hi] at this; exact this
      clear hb hi
      go_enter Tryz.func168, Tryz.ntmps168
      go_wp2_with fail
      (go_at_call 180; refine (HB.out _).mono ?_; rintro e w1 ⟨rfl, b1⟩)
      have c1 := box1 b1
      have B1 := Lib.hid (below_box b1)
      clear b1
      go_wp2_with fail
      (go_at_call 56; refine (HM.out _ (HT.out.below B1.out)).mono ?_; rintro e w2 ⟨rfl, b2⟩)
      have B2 := Lib.hid (B1.out.trans (b2.mono B1.out.size))
      clear b2
      go_wp2_with fail
      go_ret
      exact ⟨by rw [HE.out, str_same]; rfl, B2.out.alloc B2.out.size _⟩
    · have HE : Hid (backE es s.data.toList = lpL a q) := by show backE _ _ = _; unfold backE; rw [hb]; simp only [hi]
      have HM : Hid (∀ w, TabAt w (.slice ad es.length cap) es → Calls Tryz.prog 56 #[.agg #[.slice ad es.length cap], .int .i64 p] w fun e w' => e = .returned (.tuple #[.agg #[.int .i64 a, .int .i64 q], .bool true]) ∧ Below w.heap.size w w') := fun w h => by have := specMapEnd_any _ es p w hn h; rw [hi] at this; exact this
      clear hb hi
      go_enter Tryz.func168, Tryz.ntmps168
      go_wp2_with fail
      (go_at_call 180; refine (HB.out _).mono ?_; rintro e w1 ⟨rfl, b1⟩)
      have c1 := box1 b1
      have B1 := Lib.hid (below_box b1)
      clear b1
      go_wp2_with fail
      (go_at_call 56; refine (HM.out _ (HT.out.below B1.out)).mono ?_; rintro e w2 ⟨rfl, b2⟩)
      have B2 := Lib.hid (B1.out.trans (b2.mono B1.out.size))
      have B3 := Lib.hid (B2.out.alloc B2.out.size (.cells #[.int .i64 a, .int .i64 q] 53))
      clear b2
      go_wp2_with fail
      (go_at_call 181; refine (specLinPort_any a q _).mono ?_; rintro e w3 ⟨rfl, b3⟩)
      go_wp2_with fail
      go_ret
      exact ⟨by rw [HE.out]; rfl, B3.out.trans (b3.mono B3.out.size)⟩

end Go.Proofs.YtglpijjkihpeeaaGreatDoor

/- The cells of two new blocks, and of worlds in which they stay. No condition. -/
namespace Go.Proofs.YtglpijjkihpeeaaGreatDoor
open Go.RowKit

theorem cell_two {w w1 : World} {ca cb : Array Value} {ta tb : TypeId}
    (h : Below ((w.alloc (.cells ca ta)).alloc (.cells cb tb)).heap.size ((w.alloc (.cells ca ta)).alloc (.cells cb tb)) w1) :
    (∀ i, w1.cell? ⟨w.heap.size, i, none⟩ = ca[i]? ∧ w1.frozen? ⟨w.heap.size, i, none⟩ = false) ∧ (∀ i, w1.cell? ⟨w.heap.size + 1, i, none⟩ = cb[i]? ∧ w1.frozen? ⟨w.heap.size + 1, i, none⟩ = false) ∧
      Below w.heap.size w w1 ∧ w.heap.size + 2 ≤ w1.heap.size := by
  have hs : ((w.alloc (.cells ca ta)).alloc (.cells cb tb)).heap.size = w.heap.size + 2 := by simp
  have h1 : (w.alloc (.cells ca ta)).heap.size = w.heap.size + 1 := by simp
  rw [hs] at h
  have n1 := fun i => cell_new w ca ta i
  have n2 := fun i => cell_new (w.alloc (.cells ca ta)) cb tb i
  rw [h1] at n2
  refine ⟨fun i => ?_, fun i => ?_, ?_, by have := h.size; rw [hs] at this; exact this⟩
  · rw [h.cell (p := ⟨w.heap.size, i, none⟩) (by simp), h.frozen (p := ⟨w.heap.size, i, none⟩) (by simp), cell_alloc_lt (by simp), frozen_alloc_lt (by simp)]
    exact n1 i
  · rw [h.cell (p := ⟨w.heap.size + 1, i, none⟩) (by simp), h.frozen (p := ⟨w.heap.size + 1, i, none⟩) (by simp)]
    exact n2 i
  · exact (((Below.refl _ _).alloc (Nat.le_refl _) _).alloc (by simp) _).trans (h.mono (by omega))

end Go.Proofs.YtglpijjkihpeeaaGreatDoor

/- l3Line of the specification: a line as it goes outside, and the table then. Conditions: at most 2^22 ends; the text has at most 2^21 bytes. -/
namespace Go.Proofs.YtglpijjkihpeeaaGreatDoor
open Go.RowKit Go.Sort

def noneL : List UInt8 := [110, 111, 110, 101]
/-- A line as it goes outside, and the table then. -/
def lineE (es : List (Int × Int)) (l : List UInt8) : List (Int × Int) × List UInt8 := match saysE l with | none => (es, l) | some e => if (putE es e).2 = 0 then ((putE es e).1, noneL) else ((putE es e).1, lpL 50 (putE es e).2)

theorem specPut_new_or (ad : Addr) (cap : Nat) (es : List (Int × Int)) (a p : Int) (w : World) (hn : es.length ≤ 4194304) (ht : TabAt w (.slice (some ad) es.length cap) es) :
    Calls Tryz.prog 57 #[.agg #[.slice (some ad) es.length cap], .agg #[.int .i64 a, .int .i64 p]] w fun e w' => ∃ g c, e = .returned (.tuple #[.agg #[.slice (some g) (putE es (a, p)).1.length c], .int .i64 (putE es (a, p)).2]) ∧ ((g = ad ∧ c = cap ∧ (putE es (a, p)).1 = es) ∨ OwnTab w' w.heap.size (.slice (some g) (putE es (a, p)).1.length c) (putE es (a, p)).1) ∧ Below w.heap.size w w' := by
  by_cases h : 0 < portI es (a, p)
  · rw [show putE es (a, p) = (es, portI es (a, p)) from if_pos h]
    refine (specPut_has ad cap es a p w hn ht h).mono ?_
    rintro e w' ⟨rfl, hb⟩
    exact ⟨_, _, rfl, .inl ⟨rfl, rfl, rfl⟩, hb⟩
  · have h0 := portI_zero h
    by_cases h6 : es.length = 6
    · rw [show putE es (a, p) = (es, 0) from by unfold putE; rw [if_neg h, if_pos h6]]
      refine (specPut_full ad cap es a p w hn ht h0 h6).mono ?_
      rintro e w' ⟨rfl, hb⟩
      exact ⟨_, _, rfl, .inl ⟨rfl, rfl, rfl⟩, hb⟩
    · rw [show putE es (a, p) = (es ++ [(a, p)], 500 + (es.length : Int)) from by unfold putE; rw [if_neg h, if_neg h6]]
      refine (specPut_new ad cap es a p w hn ht h0 h6).mono ?_
      rintro e w' ⟨g, c, rfl, h1, hb⟩
      exact ⟨g, c, by simp, .inr (by simpa using h1), hb⟩

set_option maxRecDepth 100000 in
set_option maxHeartbeats 1600000 in
theorem specLine_any (B : Nat) (ad : Addr) (cap : Nat) (es : List (Int × Int)) (s : ByteArray) (w : World) (hn : es.length ≤ 4194304) (hs : s.size ≤ 2097152) (hB : B ≤ w.heap.size) (ho : OwnTab w B (.slice (some ad) es.length cap) es) :
    Calls Tryz.prog 179 #[.agg #[.slice (some ad) es.length cap], .string s] w fun e w' => ∃ g c, e = .returned (.tuple #[.agg #[.slice (some g) (lineE es s.data.toList).1.length c], .string ⟨(lineE es s.data.toList).2.toArray⟩]) ∧ OwnTab w' B (.slice (some g) (lineE es s.data.toList).1.length c) (lineE es s.data.toList).1 ∧ Below w.heap.size w w' := by
  have HO := Lib.hid ho
  clear ho
  rcases hb : saysE s.data.toList with _ | ⟨a, p⟩
  · have HB : Hid (∀ w, Calls Tryz.prog 188 #[.string s] w fun e w' => e = .returned (.tuple #[.agg #[.int .i64 0, .int .i64 0], .bool false]) ∧ Below w.heap.size w w') := fun w => by have := specSays_any s w hs; rw [hb] at this; exact this
    have HE : Hid (lineE es s.data.toList = (es, s.data.toList)) := by show lineE _ _ = _; unfold lineE; rw [hb]
    clear hb
    rw [HE.out, str_same]
    go_enter Tryz.func179, Tryz.ntmps179
    go_wp2_with fail
    (go_at_call 188; refine (HB.out _).mono ?_; rintro e w1 ⟨rfl, b1⟩; obtain ⟨cA, cB, b01, z1⟩ := cell_two b1; have t0 := (cA 0).1; have r0 := (cB 0).1; have g0 := (cB 0).2; simp at t0 r0; have B1 := Lib.hid b01; clear cA cB b1 b01)
    have t1 : (w1.alloc (.cells #[.int .i64 0, .int .i64 0] 53)).cell? ⟨w.heap.size, 0, none⟩ = some (.slice (some ad) es.length cap) := (by rw [cell_alloc_lt (by omega)]; exact t0)
    have r1 : (w1.alloc (.cells #[.int .i64 0, .int .i64 0] 53)).cell? ⟨w.heap.size + 1, 0, none⟩ = some (.slice none 0 0) := (by rw [cell_alloc_lt (by omega)]; exact r0)
    have g1 : (w1.alloc (.cells #[.int .i64 0, .int .i64 0] 53)).frozen? ⟨w.heap.size + 1, 0, none⟩ = false := (by rw [frozen_alloc_lt (by omega)]; exact g0)
    go_wp2_with fail
    refine bodyPost_ret (v := .tuple #[.agg #[.slice (some ad) es.length cap], .string s]) (by simp [results, Tryz.results179, go_sem, World.cell?_setCell_same _ _ _ r1]) rfl ?_
    exact ⟨_, _, rfl, HO.out.below ((B1.out.alloc B1.out.size _).setCell (by simp) _), (B1.out.alloc B1.out.size _).setCell (by simp) _⟩
  · obtain ⟨us, hus⟩ : ∃ us, us = (putE es (a, p)).1 := ⟨_, rfl⟩
    obtain ⟨q, hq⟩ : ∃ q, q = (putE es (a, p)).2 := ⟨_, rfl⟩
    have hP : Hid (∀ (w : World), TabAt w (.slice (some ad) es.length cap) es → Calls Tryz.prog 57 #[.agg #[.slice (some ad) es.length cap], .agg #[.int .i64 a, .int .i64 p]] w fun e w' => ∃ g c, e = .returned (.tuple #[.agg #[.slice (some g) us.length c], .int .i64 q]) ∧ ((g = ad ∧ c = cap ∧ us = es) ∨ OwnTab w' w.heap.size (.slice (some g) us.length c) us) ∧ Below w.heap.size w w') := fun w h => by rw [hus, hq]; exact specPut_new_or ad cap es a p w hn h
    have HB : Hid (∀ w, Calls Tryz.prog 188 #[.string s] w fun e w' => e = .returned (.tuple #[.agg #[.int .i64 a, .int .i64 p], .bool true]) ∧ Below w.heap.size w w') := fun w => by have := specSays_any s w hs; rw [hb] at this; exact this
    by_cases h0 : q = 0
    · have HE : Hid (lineE es s.data.toList = (us, noneL)) := by show lineE _ _ = _; unfold lineE; rw [hb]; simp only; rw [← hq, if_pos h0, hus]
      clear hb hus hq
      subst h0
      rw [HE.out]
      go_enter Tryz.func179, Tryz.ntmps179
      go_wp2_with fail
      (go_at_call 188; refine (HB.out _).mono ?_; rintro e w1 ⟨rfl, b1⟩; obtain ⟨cA, cB, b01, z1⟩ := cell_two b1; have t0 := (cA 0).1; have r0 := (cB 0).1; have g0 := (cB 0).2; simp at t0 r0; have B1 := Lib.hid b01; clear cA cB b1 b01)
      have t1 : (w1.alloc (.cells #[.int .i64 a, .int .i64 p] 53)).cell? ⟨w.heap.size, 0, none⟩ = some (.slice (some ad) es.length cap) := (by rw [cell_alloc_lt (by omega)]; exact t0)
      have r1 : (w1.alloc (.cells #[.int .i64 a, .int .i64 p] 53)).cell? ⟨w.heap.size + 1, 0, none⟩ = some (.slice none 0 0) := (by rw [cell_alloc_lt (by omega)]; exact r0)
      have g1 : (w1.alloc (.cells #[.int .i64 a, .int .i64 p] 53)).frozen? ⟨w.heap.size + 1, 0, none⟩ = false := (by rw [frozen_alloc_lt (by omega)]; exact g0)
      go_wp2_with fail
      (go_at_call 57; refine (hP.out _ (HO.out.tab.below (B1.out.alloc B1.out.size _))).mono ?_; rintro e w2 ⟨g2, c2, rfl, o2, b2⟩; have O2 := Lib.hid o2; have B2 := Lib.hid b2; clear o2 b2)
      have r2 : w2.cell? ⟨w.heap.size + 1, 0, none⟩ = some (.slice none 0 0) := (by rw [B2.out.cell (by simp; omega)]; exact r1)
      have g02 : w2.frozen? ⟨w.heap.size + 1, 0, none⟩ = false := (by rw [B2.out.frozen (by simp; omega)]; exact g1)
      have z2 := B2.out.size
      have z2 : w1.heap.size + 1 ≤ w2.heap.size := by simpa using z2
      have r3 : (w2.alloc (.cells #[.slice (some g2) us.length c2] 27)).cell? ⟨w.heap.size + 1, 0, none⟩ = some (.slice none 0 0) := (by rw [cell_alloc_lt (by show _ < _; omega)]; exact r2)
      have g03 : (w2.alloc (.cells #[.slice (some g2) us.length c2] 27)).frozen? ⟨w.heap.size + 1, 0, none⟩ = false := (by rw [frozen_alloc_lt (by show _ < _; omega)]; exact g02)
      go_wp2_with fail
      refine bodyPost_ret (v := .tuple #[.agg #[.slice (some g2) us.length c2], .string ⟨noneL.toArray⟩]) (by simp [results, Tryz.results179, go_sem, World.cell?_setCell_same _ _ _ r3, noneL]) rfl ?_
      have BF : Below w.heap.size w ((w2.alloc (.cells #[.slice (some g2) us.length c2] 27)).setCell ⟨w.heap.size + 1, 0, none⟩ (.slice (some g2) us.length c2)) := (((B1.out.alloc B1.out.size _).trans (B2.out.mono (by simp; omega))).alloc (by omega) _).setCell (by simp) _
      refine ⟨_, _, rfl, ?_, BF⟩
      rcases O2.out with ⟨rfl, rfl, rfl⟩ | o2
      · exact HO.out.below BF
      · exact OwnTab.mono (B := w1.heap.size) (ownsRow_setCell_below (OwnTab.below (OwnTab.mono o2 (by simp)) ((Below.refl _ _).alloc (Nat.le_refl _) _)) (by simp; omega) _) (by omega)
    · have HE : Hid (lineE es s.data.toList = (us, lpL 50 q)) := by show lineE _ _ = _; unfold lineE; rw [hb]; simp only; rw [← hq, if_neg h0, hus]
      clear hb hus hq
      rw [HE.out]
      go_enter Tryz.func179, Tryz.ntmps179
      go_wp2_with fail
      (go_at_call 188; refine (HB.out _).mono ?_; rintro e w1 ⟨rfl, b1⟩; obtain ⟨cA, cB, b01, z1⟩ := cell_two b1; have t0 := (cA 0).1; have r0 := (cB 0).1; have g0 := (cB 0).2; simp at t0 r0; have B1 := Lib.hid b01; clear cA cB b1 b01)
      have t1 : (w1.alloc (.cells #[.int .i64 a, .int .i64 p] 53)).cell? ⟨w.heap.size, 0, none⟩ = some (.slice (some ad) es.length cap) := (by rw [cell_alloc_lt (by omega)]; exact t0)
      have r1 : (w1.alloc (.cells #[.int .i64 a, .int .i64 p] 53)).cell? ⟨w.heap.size + 1, 0, none⟩ = some (.slice none 0 0) := (by rw [cell_alloc_lt (by omega)]; exact r0)
      have g1 : (w1.alloc (.cells #[.int .i64 a, .int .i64 p] 53)).frozen? ⟨w.heap.size + 1, 0, none⟩ = false := (by rw [frozen_alloc_lt (by omega)]; exact g0)
      go_wp2_with fail
      (go_at_call 57; refine (hP.out _ (HO.out.tab.below (B1.out.alloc B1.out.size _))).mono ?_; rintro e w2 ⟨g2, c2, rfl, o2, b2⟩; have O2 := Lib.hid o2; have B2 := Lib.hid b2; clear o2 b2)
      have r2 : w2.cell? ⟨w.heap.size + 1, 0, none⟩ = some (.slice none 0 0) := (by rw [B2.out.cell (by simp; omega)]; exact r1)
      have g02 : w2.frozen? ⟨w.heap.size + 1, 0, none⟩ = false := (by rw [B2.out.frozen (by simp; omega)]; exact g1)
      have z2 := B2.out.size
      have z2 : w1.heap.size + 1 ≤ w2.heap.size := by simpa using z2
      have r3 : (w2.alloc (.cells #[.slice (some g2) us.length c2] 27)).cell? ⟨w.heap.size + 1, 0, none⟩ = some (.slice none 0 0) := (by rw [cell_alloc_lt (by show _ < _; omega)]; exact r2)
      have g03 : (w2.alloc (.cells #[.slice (some g2) us.length c2] 27)).frozen? ⟨w.heap.size + 1, 0, none⟩ = false := (by rw [frozen_alloc_lt (by show _ < _; omega)]; exact g02)
      go_wp2_with fail
      have BF : Hid (Below w.heap.size w (w2.alloc (.cells #[.slice (some g2) us.length c2] 27))) := (((B1.out.alloc B1.out.size _).trans (B2.out.mono (by simp; omega))).alloc (by omega) _)
      have x3 : (w2.alloc (.cells #[.slice (some g2) us.length c2] 27)).cell? ⟨w2.heap.size, 0, none⟩ = some (.slice (some g2) us.length c2) := (cell_new _ _ _ 0).1
      have z3 : w2.heap.size + 1 ≤ (w2.alloc (.cells #[.slice (some g2) us.length c2] 27)).heap.size := by simp
      have O3 : Hid ((g2 = ad ∧ c2 = cap ∧ us = es) ∨ OwnTab (w2.alloc (.cells #[.slice (some g2) us.length c2] 27)) (w1.heap.size + 1) (.slice (some g2) us.length c2) us) := O2.out.imp id (fun o2 => OwnTab.below (OwnTab.mono o2 (by simp)) ((Below.refl _ _).alloc (Nat.le_refl _) _))
      obtain ⟨w3, hw3⟩ : ∃ w3, w3 = w2.alloc (.cells #[.slice (some g2) us.length c2] 27) := ⟨_, rfl⟩
      obtain ⟨k2, hk2⟩ : ∃ k2, k2 = w2.heap.size := ⟨_, rfl⟩
      rw [← hw3] at BF x3 z3 O3 r3 g03
      rw [← hk2] at x3 z3 z2
      rw [← hw3, ← hk2]
      clear hw3 hk2 r2 g02 O2 B2 B1 r0 t0 g0 t1 r1 g1
      go_region_with (go_at_call 181; refine (specLinPort_any 50 q _).mono ?_; rintro e w4 ⟨rfl, b4⟩; have B4 : Hid (Below w3.heap.size w3 w4) := ((Below.refl _ _).drew).trans b4; have x4 : w4.cell? ⟨k2, 0, none⟩ = some (.slice (some g2) us.length c2) := (by rw [B4.out.cell (by simp; omega)]; exact x3); have r4 : w4.cell? ⟨w.heap.size + 1, 0, none⟩ = some (.slice none 0 0) := (by rw [B4.out.cell (by simp; omega)]; exact r3); have g04 : w4.frozen? ⟨w.heap.size + 1, 0, none⟩ = false := (by rw [B4.out.frozen (by simp; omega)]; exact g03))
      all_goals
        go_wp2_with fail
        refine bodyPost_ret (v := .tuple #[.agg #[.slice (some g2) us.length c2], .string ⟨(lpL 50 q).toArray⟩]) (by simp [results, Tryz.results179, go_sem, World.cell?_setCell_same _ _ _ r4]) rfl ?_
        have BG : Below w.heap.size w (w4.setCell ⟨w.heap.size + 1, 0, none⟩ (.slice (some g2) us.length c2)) := (BF.out.trans (B4.out.mono BF.out.size)).setCell (by simp) _
        refine ⟨_, _, rfl, ?_, BG⟩
        rcases O3.out with ⟨rfl, rfl, rfl⟩ | o3
        · exact HO.out.below BG
        · exact OwnTab.mono (B := w1.heap.size) (ownsRow_setCell_below (OwnTab.below (OwnTab.mono o3 (by simp)) B4.out) (by simp; omega) _) (by omega)

end Go.Proofs.YtglpijjkihpeeaaGreatDoor
