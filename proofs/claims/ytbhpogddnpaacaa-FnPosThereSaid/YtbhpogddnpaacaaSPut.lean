/- l3Copy, MapPort and l3Put of the specification; l3Put where the end has a port or there is no room. Condition: the table has at most 2^22 ends. -/
import Derived.Test.YtbhpogddnpaacaaOwnEnds
import Derived.Test.YtbhpogddnpaacaaSMap
import Derived.Laws.AppendOwnNone
import Derived.Deep.RegionHeld3
import Derived.Deep.AppendLies
import Derived.Deep.RegionLaw
import Derived.Deep.DeepCutAuto
namespace Go.Proofs.Ytbhpogddnpaacaa
open Go.RowKit Go.Sort

theorem own_someform {w : World} {base : Nat} {e : TypeId} {size : Nat} {v : Value} {n : Nat} {xs : List Value} (h : w.ownsRow base e size v n xs) (hne : v ≠ .slice none 0 0) : ∃ g cap, v = .slice (some ⟨g, 0, none⟩) n cap ∧ base ≤ g := by
  rcases h.2 with ⟨h0, _⟩ | ⟨g, cap, _, hv, hb, _⟩
  · exact absurd h0 hne
  · exact ⟨g, cap, hv, hb⟩

set_option maxRecDepth 100000 in
set_option maxHeartbeats 800000 in
theorem specCopy_any (v : Value) (es : List (Int × Int)) (w : World) (hn : es.length ≤ 4194304) (ht : TabAt w v es) :
    Calls Try.prog 54 #[.agg #[v]] w fun e w' => ∃ g c, e = .returned (.agg #[.slice (some g) es.length c]) ∧ OwnTab w' w.heap.size (.slice (some g) es.length c) es ∧ Below w.heap.size w w' := by
  obtain ⟨i0, hi, hz0, hz1, hz2⟩ := info_parts infoEnd
  obtain ⟨ad, cap, rfl, hcap, hr⟩ := ht
  cases ad with
  | none =>
    have he : es = [] := by
      rcases es with _ | ⟨x, r⟩
      · rfl
      · obtain ⟨g, hg, _⟩ := hr (by simp); cases hg
    subst he
    clear hr
    have hz : cap = 0 := hcap.2 rfl
    subst hz
    have own0 : ∀ A B, (((w.alloc A).alloc B).alloc (.cells #[] 39)).ownsRow (w.heap.size + 2) 39 2 (.slice (some ⟨w.heap.size + 1 + 1, 0, none⟩) 0 0) 0 [] := by
      intro A B
      have := World.ownsRow_made (base := w.heap.size + 2) (e := 39) (size := 2) ((w.alloc A).alloc B) #[] 0 (by simp) (Nat.zero_le _) rfl
      simpa using this
    have HO := Lib.hid own0
    clear own0
    go_enter Try.func54, Try.ntmps54
    go_wp2_with (at_builtin; refine wpList_append_own_none rfl (.tmp 3) (.tmp 5) 32 rfl (w.heap.size + 2) 39 i0 2 Try.underlying32 hi _ 0 [] rfl (HO.out _ _) rfl ?_)
    refine bodyPost_ret (v := .agg #[.slice (some ⟨w.heap.size + 1 + 1, 0, none⟩) 0 0]) (by simp [results, Try.results54, go_sem]) rfl ⟨_, 0, rfl, ?_, ?_⟩
    · have := HO.out (.cells #[.slice none 0 0] 34) (.cells #[.slice (some ⟨w.heap.size + 1 + 1, 0, none⟩) 0 0] 34)
      exact OwnTab.mono (B := w.heap.size + 2) (by simpa [OwnTab, flatE] using this) (by omega)
    · exact ((((Below.refl _ _).alloc (Nat.le_refl _) _).alloc (by simp) _).alloc (by simp; omega) _)
  | some ad =>
    have hnews : ∀ (j : Nat) (u : Value), (flatE es)[j]? = some u → w.cell? (ad.add j) = some u := by
      intro j u hj
      by_cases h0 : es.length = 0
      · rw [List.eq_nil_of_length_eq_zero h0] at hj; simp [flatE] at hj
      · obtain ⟨g, e, hrow⟩ := hr (by omega)
        simp at e; subst e
        have := hrow.flat j u hj
        rw [show (⟨g, 0, none⟩ : Addr).add j = ⟨g, j, none⟩ from by simp [Addr.add]; omega]
        exact this
    have hlt : ∀ (j : Nat) (u : Value), (flatE es)[j]? = some u → (ad.add j).block < w.heap.size := fun j u hj => World.block_lt_of_cell? w _ (hnews j u hj)
    have own0 : ∀ A B, (((w.alloc A).alloc B).alloc (.cells #[] 39)).ownsRow (w.heap.size + 2) 39 2 (.slice (some ⟨w.heap.size + 1 + 1, 0, none⟩) 0 0) 0 [] := by
      intro A B
      have := World.ownsRow_made (base := w.heap.size + 2) (e := 39) (size := 2) ((w.alloc A).alloc B) #[] 0 (by simp) (Nat.zero_le _) rfl
      simpa using this
    have HO := Lib.hid own0
    clear own0
    have HNW := Lib.hid hnews
    have HLT := Lib.hid hlt
    clear hr hnews hlt
    go_enter Try.func54, Try.ntmps54
    go_wp2_with (at_builtin; refine wpList_append_own _ rfl (.tmp 3) (.tmp 5) 32 rfl (w.heap.size + 2) 39 i0 (.agg #[.int .i64 0, .int .i64 0]) 2 16 Try.underlying32 hi hz0 hz1 hz2 rfl (by decide) _ 0 [] rfl (HO.out _ _) ad es.length cap (flatE es) rfl ?c1 ?c2 ?c3 ?c4 ?c5 ?c6 ?_)
    case c1 => exact flatE_len es
    case c2 =>
      intro j u hj
      have hb := HLT.out j u hj
      rw [World.cell?_alloc_old _ _ _ (by simp; omega), World.cell?_alloc_old _ _ _ (by simp; omega), World.cell?_alloc_old _ _ _ (by omega)]
      exact HNW.out j u hj
    case c3 => exact flatE_one es
    case c4 => unfold maxLen; omega
    case c5 => omega
    case c6 => simp
    · intro v' w' hown hgrow hnil
      have hblk := hgrow.block (w.heap.size + 1) (by simp) (by simp [Value.ownBlock])
      have k0 : w'.cell? ⟨w.heap.size + 1, 0, none⟩ = some (.slice none 0 0) := by rw [World.cell?_of_block (a := ⟨w.heap.size + 1, 0, none⟩) hblk, (cell_second w _ _ _ _ 0).1]; rfl
      have r0 : w'.frozen? ⟨w.heap.size + 1, 0, none⟩ = false := by rw [World.frozen?_of_block (a := ⟨w.heap.size + 1, 0, none⟩) hblk]; exact (cell_second w _ _ _ _ 0).2
      have hbw : Below w.heap.size w w' := ((((Below.refl _ _).alloc (Nat.le_refl _) _).alloc (by simp) _).alloc (by simp; omega) _).grown hgrow (by simp; omega) (fun k hk => by simp [Value.ownBlock] at hk; omega)
      obtain ⟨a1, cap1, rfl⟩ : ∃ g c, v' = .slice (some g) es.length c := by
        obtain ⟨g, c, e, _⟩ := own_someform hown hnil
        exact ⟨_, _, e⟩
      have HG := Lib.hid hown
      clear hown hgrow hblk
      go_wp2
      refine bodyPost_ret (v := .agg #[.slice (some a1) es.length cap1]) (by simp [results, Try.results54, go_sem, World.cell?_setCell_same _ _ _ k0]) rfl ⟨_, _, rfl, ?_, hbw.setCell (by simp) _⟩
      have := ownsRow_setCell_below (a := ⟨w.heap.size + 1, 0, none⟩) HG.out (by simp) (.slice (some a1) es.length cap1)
      exact OwnTab.mono (B := w.heap.size + 2) (by simpa [OwnTab] using this) (by omega)

set_option maxRecDepth 100000 in
set_option maxHeartbeats 800000 in
theorem specPort_any (v : Value) (es : List (Int × Int)) (a p : Int) (w : World) (hn : es.length ≤ 4194304) (ht : TabAt w v es) :
    Calls Try.prog 68 #[.agg #[v], .agg #[.int .i64 a, .int .i64 p]] w fun e w' => e = .returned (.int .i64 (portI es (a, p))) ∧ Below w.heap.size w w' := by
  have HT := Lib.hid ht
  obtain ⟨ad, cap, rfl, hcap, hr⟩ := ht
  obtain ⟨f0, f1⟩ := findI_bounds es (a, p)
  have f2 : findI es (a, p) < 4194304 := by omega
  obtain ⟨k, hk⟩ : ∃ k, k = findI es (a, p) := ⟨_, rfl⟩
  have HF : Hid (∀ w, TabAt w (.slice ad es.length cap) es → Calls Try.prog 28 #[.agg #[.slice ad es.length cap], .agg #[.int .i64 a, .int .i64 p]] w fun e w' => e = .returned (.int .i64 k) ∧ Below w.heap.size w w') := fun w h => by rw [hk]; exact specFind_any _ es a p w hn h
  rw [← hk] at f0 f2
  have HP : Hid (portI es (a, p) = if k < 0 then 0 else 500 + k) := by show portI es (a, p) = _; rw [hk]; rfl
  clear hk f1 hr
  by_cases hneg : k < 0
  all_goals
    go_enter Try.func68, Try.ntmps68
    go_wp2_with (go_at_call 28; refine (HF.out _ (HT.out.below (((Below.refl _ _).alloc (Nat.le_refl _) _).alloc (by simp) _))).mono ?_; rintro e w1 ⟨rfl, b1⟩)
    go_ret
    refine ⟨ret_int ?_, (((Below.refl _ _).alloc (Nat.le_refl _) _).alloc (by simp) _).trans (b1.mono (by simp; omega))⟩
    rw [HP.out]
    first | rw [if_pos (by omega)] | rw [if_neg (by omega)]

set_option maxRecDepth 100000 in
set_option maxHeartbeats 1600000 in
/-- l3Put where the end has a port: the table as it is. -/
theorem specPut_has (ad : Addr) (cap : Nat) (es : List (Int × Int)) (a p : Int) (w : World) (hn : es.length ≤ 4194304) (ht : TabAt w (.slice (some ad) es.length cap) es) (hp : 0 < portI es (a, p)) :
    Calls Try.prog 59 #[.agg #[.slice (some ad) es.length cap], .agg #[.int .i64 a, .int .i64 p]] w fun e w' => e = .returned (.tuple #[.agg #[.slice (some ad) es.length cap], .int .i64 (portI es (a, p))]) ∧ Below w.heap.size w w' := by
  have HT := Lib.hid ht
  obtain ⟨k, hk⟩ : ∃ k, k = portI es (a, p) := ⟨_, rfl⟩
  have HP : Hid (∀ w, TabAt w (.slice (some ad) es.length cap) es → Calls Try.prog 68 #[.agg #[.slice (some ad) es.length cap], .agg #[.int .i64 a, .int .i64 p]] w fun e w' => e = .returned (.int .i64 k) ∧ Below w.heap.size w w') := fun w h => by rw [hk]; exact specPort_any _ es a p w hn h
  rw [← hk] at hp ⊢
  clear ht hk
  go_enter Try.func59, Try.ntmps59
  go_wp2_with (go_at_call 68; refine (HP.out _ (HT.out.below ((((Below.refl _ _).alloc (Nat.le_refl _) _).alloc (by simp) _).alloc (by simp; omega) _))).mono ?_; rintro e w1 ⟨rfl, b1⟩; obtain ⟨cA, cB, cC, b01, z1⟩ := cell_three b1; have a0 := (cA 0).1; have r0 := (cC 0).1; have g0 := (cC 0).2; simp at a0 r0)
  refine bodyPost_ret (v := .tuple #[.agg #[.slice (some ad) es.length cap], .int .i64 k]) (by simp [results, Try.results59, go_sem, World.cell?_setCell_same _ _ _ r0]) rfl ⟨rfl, ?_⟩
  exact b01.setCell (by simp; omega) _

set_option maxRecDepth 100000 in
set_option maxHeartbeats 1600000 in
/-- l3Put where there is no room: the table as it is, and 0. -/
theorem specPut_full (ad : Addr) (cap : Nat) (es : List (Int × Int)) (a p : Int) (w : World) (hn : es.length ≤ 4194304) (ht : TabAt w (.slice (some ad) es.length cap) es) (hp : portI es (a, p) = 0) (h6 : es.length = 6) :
    Calls Try.prog 59 #[.agg #[.slice (some ad) es.length cap], .agg #[.int .i64 a, .int .i64 p]] w fun e w' => e = .returned (.tuple #[.agg #[.slice (some ad) es.length cap], .int .i64 0]) ∧ Below w.heap.size w w' := by
  have HT := Lib.hid ht
  have HP : Hid (∀ w, TabAt w (.slice (some ad) es.length cap) es → Calls Try.prog 68 #[.agg #[.slice (some ad) es.length cap], .agg #[.int .i64 a, .int .i64 p]] w fun e w' => e = .returned (.int .i64 0) ∧ Below w.heap.size w w') := fun w h => by rw [← hp]; exact specPort_any _ es a p w hn h
  have h6' : ((es.length : Int) == 6) = true := by simp; omega
  clear ht hp h6
  go_enter Try.func59, Try.ntmps59
  go_wp2_with (go_at_call 68; refine (HP.out _ (HT.out.below ((((Below.refl _ _).alloc (Nat.le_refl _) _).alloc (by simp) _).alloc (by simp; omega) _))).mono ?_; rintro e w1 ⟨rfl, b1⟩; obtain ⟨cA, cB, cC, b01, z1⟩ := cell_three b1; have a0 := (cA 0).1; have r0 := (cC 0).1; have g0 := (cC 0).2; simp at a0 r0)
  refine bodyPost_ret (v := .tuple #[.agg #[.slice (some ad) es.length cap], .int .i64 0]) (by simp [results, Try.results59, go_sem, World.cell?_setCell_same _ _ _ r0]) rfl ⟨rfl, ?_⟩
  exact b01.setCell (by simp; omega) _

end Go.Proofs.Ytbhpogddnpaacaa
