/- A number in two bytes behind others, of the specification and of the program. Conditions: the number is in 0 to 65535; at most 2^22 bytes. -/
import Derived.Test.YtjnhmobdigfpiaaDoorBytes
import Derived.Test.YtjnhmobdigfpiaaDoorSegs
import Derived.IntWalk
import Derived.Deep.RegionLaw
import Derived.Deep.AppendLies
import Derived.Maps.AppendAt
import Derived.Lib.EndianBits
namespace Go.Proofs.YtjnhmobdigfpiaaDoor
open Go.RowKit

theorem byV_word {n : Nat} (hn : n < 65536) : byV (wordL n) = [.int .u8 ((n : Int) / 256), .int .u8 ((n : Int) % 256)] := by
  unfold byV wordL
  simp only [List.map_cons, List.map_nil, List.cons.injEq, and_true]
  constructor
  · congr 1
    simp
    omega
  · congr 1
theorem add_zeroB (g j : Nat) : (⟨g, 0, none⟩ : Addr).add j = ⟨g, j, none⟩ := by unfold Addr.add; split <;> simp_all
theorem two_cells (w : World) (a b : Value) (t : TypeId) : ∀ (j : Nat) (u : Value), [a, b][j]? = some u → (w.alloc (.cells #[a, b] t)).cell? ((⟨w.heap.size, 0, none⟩ : Addr).add j) = some u := by
  intro j u hj
  match j, hj with
  | 0, hj => simp at hj; subst hj; rw [add_zeroB]; exact (cell_new w #[a, b] t 0).1
  | 1, hj => simp at hj; subst hj; rw [add_zeroB]; exact (cell_new w #[a, b] t 1).1

set_option maxRecDepth 100000 in
set_option maxHeartbeats 1600000 in
theorem implWord_any (B : Nat) (v : Value) (l : List UInt8) (n : Nat) (w : World) (hl : l.length ≤ 4194304) (hn : n < 65536) (hB : B ≤ w.heap.size) (ho : OwnB w B v l) :
    Calls Tryd.prog 27 #[v, .int .i64 n] w fun e w' => ∃ v', e = .returned v' ∧ OwnB w' B v' (l ++ wordL n) ∧ Below B w w' := by
  obtain ⟨i0, hi, hz0, hz1, hz2⟩ := info_parts infoByte
  obtain ⟨a, cap, rfl⟩ := ho.form
  have HO := Lib.hid ho
  have HB := Lib.hid (byV_word hn)
  clear ho
  go_enter Tryd.func27, Tryd.ntmps27
  go_wp2_with (at_builtin; refine wpList_append_own _ rfl (.tmp 5) (.tmp 11) 22 rfl B 5 i0 (.int .u8 0) 1 1 Tryd.underlying22 hi hz0 hz1 hz2 rfl (by decide) _ _ _ rfl (World.ownsRow.alloc HO.out _) ⟨w.heap.size, 0, none⟩ 2 2 [.int .u8 ((n : Int) / 256), .int .u8 ((n : Int) % 256)] rfl rfl ?c1 ?c2 ?c3 ?c4 ?c5 ?_)
  case c1 => exact two_cells _ _ _ _
  case c2 => intro u hu; simp at hu; rcases hu with rfl | rfl <;> rfl
  case c3 => unfold maxLen; omega
  case c4 => omega
  case c5 => simp; omega
  intro v' w1 hown' hgrow _
  have HW := Lib.hid hown'
  have HG := Lib.hid hgrow
  clear hown' hgrow
  go_wp2_with fail
  go_ret
  refine ⟨_, rfl, ?_, ?_⟩
  · have := HW.out
    unfold OwnB
    rw [byV_app, HB.out]
    simpa [wordL] using this
  · exact ((Below.refl _ _).alloc hB _).grown HG.out (by simp; omega) (fun k hk => (World.ownsRow.lt HO.out k hk).1)

set_option maxRecDepth 100000 in
set_option maxHeartbeats 1600000 in
theorem specPutW_any (g cap : Nat) (l : List UInt8) (n : Nat) (w : World) (hl : l.length ≤ 4194304) (hn : n < 65536) (hg : g < w.heap.size) (hr : RowAt w g (byV l)) :
    Calls Tryd.prog 29 #[.slice (some ⟨g, 0, none⟩) l.length cap, .int .i64 n] w fun e w' => ∃ g' cap', e = .returned (.slice (some ⟨g', 0, none⟩) (l.length + 2) cap') ∧ OwnB w' w.heap.size (.slice (some ⟨g', 0, none⟩) (l.length + 2) cap') (l ++ wordL n) ∧ Below w.heap.size w w' := by
  obtain ⟨i0, hi, hz0, hz1, hz2⟩ := info_parts infoByte
  have HR := Lib.hid hr
  have HB := Lib.hid (byV_word hn)
  clear hr
  go_enter Tryd.func29, Tryd.ntmps29
  go_wp2_with (at_builtin; refine wpList_append_own _ rfl (.tmp 5) (.tmp 6) 22 rfl w.heap.size 5 i0 (.int .u8 0) 1 1 Tryd.underlying22 hi hz0 hz1 hz2 rfl (by decide) (.slice (some ⟨w.heap.size, 0, none⟩) 0 0) 0 [] rfl (World.ownsRow_made w #[] 0 (Nat.le_refl _) (Nat.zero_le _) rfl) ⟨g, 0, none⟩ l.length cap (byV l) rfl (by rw [byV_len]; omega) ?c1 (byV_one l) ?c3 ?c4 ?c5 ?_)
  case c1 =>
    intro j u hj
    obtain ⟨hj2, rfl⟩ := List.getElem?_eq_some_iff.1 hj
    rw [add_zeroB, cell_alloc_lt hg]
    exact (HR.out j hj2).1
  case c3 => unfold maxLen; omega
  case c4 => omega
  case c5 => simp
  intro v1 w1 hown1 hgrow1 hnz
  obtain ⟨g1, cap1, rfl⟩ : ∃ g1 cap1, v1 = .slice (some ⟨g1, 0, none⟩) l.length cap1 := by
    rcases hown1.2 with ⟨h1, _⟩ | ⟨g1, cap1, cur, h1, _⟩
    · exact absurd h1 (by simpa using hnz)
    · exact ⟨g1, cap1, by rw [h1]⟩
  have HW := Lib.hid hown1
  have B1 : Hid (Below w.heap.size w w1) := ((Below.refl _ _).alloc (Nat.le_refl _) _).grown hgrow1 (by simp) (fun k hk => by simp [Value.ownBlock] at hk; omega)
  have z1 := B1.out.size
  clear hown1 hgrow1 hnz
  go_wp2_with (at_builtin; refine wpList_append_own _ rfl (.tmp 7) (.tmp 14) 22 rfl w.heap.size 5 i0 (.int .u8 0) 1 1 Tryd.underlying22 hi hz0 hz1 hz2 rfl (by decide) (.slice (some ⟨g1, 0, none⟩) l.length cap1) l.length (byV l) rfl (World.ownsRow.alloc HW.out _) ⟨w1.heap.size, 0, none⟩ 2 2 [.int .u8 ((n : Int) / 256), .int .u8 ((n : Int) % 256)] rfl rfl ?c1 ?c2 ?c3 ?c4 ?c5 ?_)
  case c1 => exact two_cells _ _ _ _
  case c2 => intro u hu; simp at hu; rcases hu with rfl | rfl <;> rfl
  case c3 => unfold maxLen; omega
  case c4 => omega
  case c5 => simp; omega
  intro v2 w2 hown2 hgrow2 hnz
  obtain ⟨g2, cap2, rfl⟩ : ∃ g2 cap2, v2 = .slice (some ⟨g2, 0, none⟩) (l.length + 2) cap2 := by
    rcases hown2.2 with ⟨h1, _⟩ | ⟨g2, cap2, cur, h1, _⟩
    · exact absurd h1 (by simpa using hnz)
    · exact ⟨g2, cap2, by rw [h1]⟩
  have HW2 := Lib.hid hown2
  have HG2 := Lib.hid hgrow2
  clear hown2 hgrow2 hnz
  go_wp2_with fail
  go_ret
  refine ⟨g2, cap2, rfl, ?_, ?_⟩
  · have := HW2.out
    unfold OwnB
    rw [byV_app, HB.out]
    simpa [wordL] using this
  · exact (B1.out.alloc z1 _).grown HG2.out (by simp; omega) (fun k hk => (World.ownsRow.lt HW.out k hk).1)

end Go.Proofs.YtjnhmobdigfpiaaDoor
