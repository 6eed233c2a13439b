/- The lines of a text, told one by one: what the program's iterator gives to each loop body. Condition: the text has at most 2^21 bytes. -/
import Derived.RangeFuncNested
import Derived.RangeFuncBound
import Derived.RangeFuncCalls
import Derived.RangeFuncLeaves
import Derived.RangeFuncBox
import Derived.Shelf.Abstract
import Derived.Shelf.RegionOpen
import Derived.WalkKit
import Derived.OwnWalkIn
import Derived.TacticsInMore
import Derived.LoopNIn
import Derived.LoopIn
import Derived.Maps.AppendAt
import Derived.Test.YtbhpogddnpaacaaGreatDoorICut
namespace Go.Proofs.YtbhpogddnpaacaaGreatDoor
open Go.RowKit Go.Shelf

/-- How long a text is. -/
def szOf : Value → Nat | .string s => s.size | _ => 0

theorem grownBy_drewN (W : World) (n : Nat) : W.grownBy (W.drewN n) none := ⟨rfl, rfl, rfl, Nat.le_refl _, fun _ _ _ => rfl⟩

set_option maxRecDepth 100000 in
set_option maxHeartbeats 1000000 in
theorem tell_in (n : Nat) (hn : 1 ≤ n) (l Bn : Nat) (s : ByteArray) (hs : s.size ≤ 2097152) (J Jx : List (List UInt8) → World → Prop)
    (hY : ∀ pre x W, J pre W → pre.length < (linesL s.data.toList).length → YieldAt Fence.wide (n - 1) Tryz.prog l #[.string ⟨x.toArray⟩] W fun e W' =>
      (e = .returned (.bool true) ∧ J (pre ++ [x]) W' ∧ True) ∨ (e = .returned (.bool false) ∧ Jx (pre ++ [x]) W'))
    (W : World) (hJ : AbidesFrom W.heap.size J) (hBn : W.cell? ⟨Bn, 0, none⟩ = some (.string s)) (h0 : J [] W) :
    CallsIn Fence.wide n Tryz.prog 47 #[.func (.yield l) #[] #[], .pointer (some ⟨Bn, 0, none⟩)] W fun e W' => (∃ v, e = .returned v) ∧
      ((∃ ys, ys = linesL s.data.toList ∧ J ys W') ∨ (∃ pre, pre <+: linesL s.data.toList ∧ Jx pre W')) := by
  refine callsIn_of_wp Tryz.func47 rfl trivial ?_ rfl
  simp only [Tryz.ntmps47, List.size_toArray, List.length_cons, List.length_nil, Nat.reduceAdd, Nat.reduceSub, Array.replicate_succ, Array.replicate_zero, List.push_toArray, List.append_toArray, List.nil_append, List.cons_append]
  gi_wp2
  gi_loopw [3] (fun p wr => ∃ (pre : List (List UInt8)) (t : ByteArray), p = .string t ∧ t.size ≤ s.size ∧ linesL s.data.toList = pre ++ linesL t.data.toList ∧ J pre wr)
    (fun p _ => szOf p)
  case atStart =>
    exact ⟨[], s, rfl, Nat.le_refl _, rfl, h0⟩
  case round =>
    obtain ⟨pre, t, rfl, ht, hx, hJs⟩ := hrel
    by_cases hi : 0 ≤ Lib.index t.data.toList [59]
    · have h3 : (Lib.cut t.data.toList [59]).2.2 = true := by unfold Lib.cut; rw [if_pos hi]
      have hl := lines_cut_yes hi
      have hm := cut_len hi
      rw [len_list] at hm
      obtain ⟨x, hxx⟩ : ∃ x, x = (Lib.cut t.data.toList [59]).1 := ⟨_, rfl⟩
      obtain ⟨r, hrr⟩ : ∃ r, r = (Lib.cut t.data.toList [59]).2.1 := ⟨_, rfl⟩
      have hcut : ∀ w, Calls Tryz.prog 48 #[.string t, .string ⟨#[59]⟩] w fun e w' => e = .returned (.tuple #[.string ⟨x.toArray⟩, .string ⟨r.toArray⟩, .bool true]) ∧ ∃ n, w' = w.drewN n := by
        intro w; have := cutSemi_any t w (by omega); rw [h3, ← hxx, ← hrr] at this; exact this
      rw [← hxx, ← hrr] at hl
      rw [← hrr] at hm
      rw [hl] at hx
      have HC := Lib.hid hcut
      have HX := Lib.hid hx
      have hlen : pre.length < (linesL s.data.toList).length := by rw [hx]; simp
      clear hcut hxx hrr h3 hi hx hl
      gi_wp2_with (refine ⟨trivial, ?_⟩; gi_at_call 48; refine (callsIn_wide.2 (HC.out _)).mono ?_; rintro e w1 ⟨rfl, k, rfl⟩; obtain ⟨fn, tmps, assign, body, hy, hR⟩ := hY pre x _ (hJ _ _ _ none hJs (grownBy_drewN wr k) (fun r e => by cases e)) hlen)
      refine hR.mono ?_
      rintro e W3 (⟨rfl, hJ3, _⟩ | ⟨rfl, hJx3⟩)
      · gi_wp2
        go_roundw
        case rel => exact ⟨pre ++ [x], ⟨r.toArray⟩, rfl, by (have e : (⟨r.toArray⟩ : ByteArray).size = r.length := rfl); omega, by rw [HX.out]; simp, hJ3⟩
        case measure => show (⟨r.toArray⟩ : ByteArray).size < t.size; exact hm
      · gi_wp2
        refine bodyPost_ret (results_none rfl _ _ _) rfl ?_
        exact ⟨⟨_, rfl⟩, .inr ⟨pre ++ [x], ⟨linesL r, by rw [HX.out]; simp⟩, hJx3⟩⟩
    · have hcut : ∀ w, Calls Tryz.prog 48 #[.string t, .string ⟨#[59]⟩] w fun e w' => e = .returned (.tuple #[.string t, .string ⟨#[]⟩, .bool false]) ∧ ∃ n, w' = w.drewN n := by
        intro w; have := cutSemi_any t w (by omega); rw [cutK_no hi] at this; exact this
      have HC := Lib.hid hcut
      have hl := lines_cut_no hi
      rw [hl, List.append_nil] at hx
      have HX := Lib.hid hx
      clear hcut hi hl hx
      gi_wp2_with (refine ⟨trivial, ?_⟩; gi_at_call 48; refine (callsIn_wide.2 (HC.out _)).mono ?_; rintro e w1 ⟨rfl, k, rfl⟩)
      refine ⟨fun _ h => (by cases h), ?_⟩
      gi_wp2
      refine bodyPost_ret (results_none rfl _ _ _) rfl ?_
      exact ⟨⟨_, rfl⟩, .inl ⟨pre, HX.out.symm, hJ _ _ _ none hJs (grownBy_drewN wr k) (fun r e => by cases e)⟩⟩

theorem linesOf_any (s : ByteArray) (w : World) :
    Calls Tryz.prog 24 #[.string s] w fun e w' => e = .returned (.func (.func 47) #[] #[.pointer (some ⟨w.heap.size, 0, none⟩)]) ∧ w' = w.alloc (.cells #[.string s] 9) := by
  go_enter Tryz.func24, Tryz.ntmps24
  go_wp2
  go_ret
  exact ⟨rfl, rfl⟩

/-- What linesOf hands back tells the text's lines, in their order, until a round says no more. -/
theorem tell_stops (n : Nat) (hn : 1 ≤ n) (Bn : Nat) (s : ByteArray) (hs : s.size ≤ 2097152) (w : World) (hBn : Bn < w.heap.size) (hc : w.cell? ⟨Bn, 0, none⟩ = some (.string s)) :
    SeqStopsK Fence.wide n Tryz.prog 47 #[.pointer (some ⟨Bn, 0, none⟩)] (fun x : List UInt8 => #[Value.string ⟨x.toArray⟩]) (fun _ _ => True) (fun ys => ys = linesL s.data.toList) (fun pre => pre <+: linesL s.data.toList) (linesL s.data.toList).length w := fun l J Jx W hW hJ _ hY h0 =>
  tell_in n hn l Bn s hs J Jx hY W hJ ((hW.cell (p := ⟨Bn, 0, none⟩) hBn).trans hc) h0

end Go.Proofs.YtbhpogddnpaacaaGreatDoor
