/- How the law copies bytes, compares them, marks them and finds the marks again. Condition: at most 2^22 bytes. -/
import Derived.Test.YtgoggndacichdaaDoorBytes
import Derived.Deep.QuietTactic
import Derived.BigQuiet
import Derived.IntWalk
import Derived.OwnWalk
namespace Go.Proofs.YtgoggndacichdaaDoor
open Go.RowKit

/-- A row that is written cell by cell. -/
theorem row_step (ys xs : List Value) (j : Nat) (hx : xs.length = ys.length) (hj : j < ys.length) : (ys.take j ++ xs.drop j).set j ys[j] = ys.take (j + 1) ++ xs.drop (j + 1) := by
  apply List.ext_getElem
  · simp [hx]; omega
  · intro i h1 h2
    by_cases e : j = i
    · subst e
      rw [List.getElem_set_self, List.getElem_append_left (by simp; omega), List.getElem_take]
    · rw [List.getElem_set_ne e]
      by_cases hi : i < j
      · rw [List.getElem_append_left (by simp; omega), List.getElem_append_left (by simp; omega)]
        simp
      · rw [List.getElem_append_right (by simp; omega), List.getElem_append_right (by simp; omega)]
        simp
        congr 1; omega
theorem row_all (ys xs : List Value) (hx : xs.length = ys.length) : ys.take ys.length ++ xs.drop ys.length = ys := by
  rw [List.take_of_length_le (Nat.le_refl _), List.drop_of_length_le (by omega)]; simp
theorem row_own {w : World} {B g n cap : Nat} {e : TypeId} {xs : List Value} (h : w.ownsRow B e 1 (.slice (some ⟨g, 0, none⟩) n cap) n xs) : xs.length = n ∧ RowAt w g xs ∧ B ≤ g ∧ g < w.heap.size := by
  have hl : xs.length = n := by rw [h.1]; omega
  refine ⟨hl, ?_⟩
  rcases h.2 with ⟨h0, _⟩ | ⟨g', cap', cur, hv, hB, hg, h2, _, hs, ht⟩
  · cases h0
  · simp at hv
    obtain ⟨rfl, rfl⟩ := hv
    refine ⟨fun i hi => ?_, hB, (Array.getElem?_eq_some_iff.1 hg).1⟩
    obtain ⟨g2, cap2, e2, _, _, _, hc⟩ := own_cells h (by omega)
    simp at e2
    obtain ⟨rfl, rfl⟩ := e2
    exact hc i hi

set_option maxRecDepth 100000 in
set_option maxHeartbeats 800000 in
theorem toBytes_any (v : Value) (l : List UInt8) (w : World) (hn : l.length ≤ 4194304) (ht : ArgB w v l) :
    Calls Tryd.prog 5 #[v] w fun e w' => ∃ g, e = .returned (.slice (some ⟨g, 0, none⟩) l.length l.length) ∧ RowAt w' g (byV l) ∧ w.heap.size ≤ g ∧ g < w'.heap.size ∧ Below w.heap.size w w' := by
  obtain ⟨ad, cap, rfl, hcap, hr⟩ := ht
  obtain ⟨i0, hi, hz0, hz1, hz2⟩ := info_parts infoByte
  have HR := Lib.hid hr
  clear hr
  go_enter Tryd.func5, Tryd.ntmps5
  go_wp2_with (at_make; refine wpList_make_full _ rfl (.tmp 6) (.tmp 6) 22 rfl w.heap.size 5 i0 (.int .u8 0) 1 (by rfl) hi hz0 hz1 .i64 .i64 (l.length : Int) (l.length : Int) l.length (by rfl) (by rfl) rfl rfl (by rw [hz2]; omega) (by unfold maxLen; omega) (Nat.le_refl _) ?_; intro w1 hown hgrow)
  obtain ⟨hxl, hrow0, _, hg1⟩ := row_own hown
  have hB1 : Below w.heap.size w w1 := (Below.refl _ _).grown hgrow (Nat.le_refl _) (fun k hk => by cases hk)
  obtain ⟨xs, hxs⟩ : ∃ xs, xs = (madeCells (Value.int IntKind.u8 0).cells (l.length * 1)).toList := ⟨_, rfl⟩
  rw [← hxs] at hxl hrow0
  obtain ⟨g, hg⟩ : ∃ g, g = w.heap.size := ⟨_, rfl⟩
  rw [← hg] at hrow0 hg1 ⊢
  have HG := Lib.hid hg
  have HX : Hid (xs.length = (byV l).length) := by show _ = _; rw [byV_len]; exact hxl
  have HO := Lib.hid hrow0
  have HB1 := Lib.hid hB1
  clear hown hgrow hxs hxl hrow0 hB1 hg
  go_loopw [4] (fun i wr => ∃ k : Nat, k ≤ l.length ∧ i = .int .i64 k ∧ RowAt wr g ((byV l).take k ++ xs.drop k) ∧ Below w.heap.size w wr ∧ g < wr.heap.size) (fun i _ => l.length - (intOf i).toNat)
  case atStart => exact ⟨0, Nat.zero_le _, rfl, by simpa using HO.out, HB1.out, hg1⟩
  case round =>
    obtain ⟨k, hk, rfl, hrow, hb, hsz⟩ := hrel
    by_cases hlt : k < l.length
    · obtain ⟨x, rfl, hx, hcell⟩ := HR.out (by omega)
      have c1 := (hb.cell (p := x.add k) (by rw [add_blockB]; exact hx)).trans (hcell k hlt)
      have hl : k < ((byV l).take k ++ xs.drop k).length := by simp [HX.out, byV_len]; omega
      have HS : Hid (((byV l).take k ++ xs.drop k).set k (.int .u8 ((l[k]).toNat : Int)) = (byV l).take (k + 1) ++ xs.drop (k + 1)) := by
        have := row_step (byV l) xs k HX.out (by rw [byV_len]; exact hlt)
        rwa [byV_at] at this
      obtain ⟨old, k1⟩ : ∃ old, wr.cell? ⟨g, k, none⟩ = some old := ⟨_, (hrow k hl).1⟩
      have f1 := (hrow k hl).2
      have HW := Lib.hid hrow
      have HB := Lib.hid hb
      obtain ⟨c, hc⟩ : ∃ c, c = ((l[k]).toNat : Int) := ⟨_, rfl⟩
      rw [← hc] at c1 HS
      have hk2 : (k : Int) ≤ (cap : Int) := by omega
      clear hc hrow hcell hb
      go_wp2_with fail
      go_roundw
      case rel => exact ⟨k + 1, by omega, by go_num, by rw [← HS.out]; exact HW.out.set hl _, HB.out.setCell (by have := HG.out; simp; omega) _, by simpa using hsz⟩
      case measure => simp [intOf]; omega
    · have hkn : k = l.length := by omega
      have HE : Hid (RowAt wr g (byV l)) := by
        have := row_all (byV l) xs HX.out
        rw [byV_len] at this
        rw [hkn, this] at hrow; exact hrow
      clear hrow
      go_wp2
      go_ret
      exact ⟨_, rfl, HE.out, by have := HG.out; omega, hsz, hb⟩

set_option maxRecDepth 100000 in
set_option maxHeartbeats 800000 in
theorem eqBytes_same (v1 v2 : Value) (l : List UInt8) (w : World) (hn : l.length ≤ 4194304) (h1 : RdB w v1 l) (h2 : RdB w v2 l) :
    Calls Tryd.prog 8 #[v1, v2] w fun e w' => e = .returned (.bool true) ∧ Below w.heap.size w w' := by
  obtain ⟨a1, cap1, rfl, hc1, r1⟩ := h1
  obtain ⟨a2, cap2, rfl, hc2, r2⟩ := h2
  have R1 := Lib.hid r1
  have R2 := Lib.hid r2
  clear r1 r2
  go_enter Tryd.func8, Tryd.ntmps8
  go_wp2
  go_loopw [5] (fun i wr => ∃ k : Nat, k ≤ l.length ∧ i = .int .i64 k ∧ Below w.heap.size w wr) (fun i _ => l.length - (intOf i).toNat)
  case atStart => exact ⟨0, Nat.zero_le _, rfl, Below.refl _ _⟩
  case round =>
    obtain ⟨k, hk, rfl, hb⟩ := hrel
    by_cases hlt : k < l.length
    · obtain ⟨g1, rfl, q1⟩ := R1.out (by omega)
      obtain ⟨g2, rfl, q2⟩ := R2.out (by omega)
      have c1 := (hb.cell (p := ⟨g1, k, none⟩) (q1.lt (by rw [byV_len]; omega))).trans (eq_cell q1 (i := k) (by rw [byV_len]; exact hlt))
      have c2 := (hb.cell (p := ⟨g2, k, none⟩) (q2.lt (by rw [byV_len]; omega))).trans (eq_cell q2 (i := k) (by rw [byV_len]; exact hlt))
      rw [byV_at] at c1 c2
      obtain ⟨x, hx⟩ : ∃ x, x = ((l[k]).toNat : Int) := ⟨_, rfl⟩
      rw [← hx] at c1 c2
      have hk2 : (k : Int) ≤ (cap1 : Int) := by omega
      have hk3 : (k : Int) ≤ (cap2 : Int) := by omega
      clear hx q1 q2 R1 R2
      go_wp2_with fail
      go_quiet (fail)
      go_wp2
      go_roundw
      case rel => exact ⟨k + 1, by omega, by go_num, hb.trans ⟨rfl, rfl, rfl, Nat.le_refl _, fun _ _ => rfl⟩⟩
      case measure => simp [intOf]; omega
    · go_wp2
      go_ret
      exact ⟨rfl, hb⟩

/-- n marks, from k on. -/
def marksB (k n : Nat) : List UInt8 := (List.range n).map fun i => UInt8.ofNat (k + i)
theorem marksB_len (k n : Nat) : (marksB k n).length = n := by simp [marksB]
theorem marksB_at (k n i : Nat) (h : i < (marksB k n).length) : (marksB k n)[i] = UInt8.ofNat (k + i) := by simp [marksB]
theorem ofNat_u8 (k : Nat) : ((UInt8.ofNat k).toNat : Int) = (k : Int) % 256 := by simp
theorem marksB_set (k n j : Nat) (xs : List Value) (hx : xs.length = n) (hj : j < n) : ((byV (marksB k n)).take j ++ xs.drop j).set j (.int .u8 (((k : Int) + (j : Int)) % 256)) = (byV (marksB k n)).take (j + 1) ++ xs.drop (j + 1) := by
  have := row_step (byV (marksB k n)) xs j (by rw [byV_len, marksB_len, hx]) (by rw [byV_len, marksB_len]; exact hj)
  rw [byV_at, marksB_at, ofNat_u8] at this
  rwa [show (((k + j : Nat) : Int)) = (k : Int) + (j : Int) from by omega] at this

end Go.Proofs.YtgoggndacichdaaDoor
