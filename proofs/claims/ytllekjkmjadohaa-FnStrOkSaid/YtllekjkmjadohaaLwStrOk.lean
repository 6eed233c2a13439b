/- The law that a part of a stream is a stream: at every code. Condition: the code lies in memory. -/
import Derived.Test.YtllekjkmjadohaaDrawStrs
import Derived.Test.YtllekjkmjadohaaHaOk
import Derived.Test.YtllekjkmjadohaaSLine
import Derived.Test.YtllekjkmjadohaaLinesP
import Derived.Test.YtllekjkmjadohaaIStr
import Derived.Test.YtllekjkmjadohaaILines
import Derived.Test.YtllekjkmjadohaaRdV
namespace Go.Proofs.Ytllekjkmjadohaa
open Go.RowKit

theorem str_ext {s : ByteArray} (hs : s.size ≤ 200) (h : strB s.data.toList = true) (k : Nat) (w : World) :
    Calls Try.prog 22 #[.string (s.extract 0 k)] w fun e w' => e = .returned (.bool true) ∧ Below w.heap.size w w' := by
  have := implStr_any (s.extract 0 k) w (by simp; omega)
  have e : (s.extract 0 k).data.toList = s.data.toList.take k := by rw [ext_list]; simp
  rw [e, str_take h k] at this
  exact this

set_option maxRecDepth 100000 in
set_option maxHeartbeats 3200000 in
theorem lwStrOk_any (ao : Option Addr) (n cap : Nat) (w : World) (h : BytesIn w ao n) (hn : n ≤ cap) :
    Calls Try.prog 5 #[.slice ao n cap] w fun e w' => e = .returned (.bool true) ∧ Below w.heap.size w w' := by
  have H := Lib.hid h
  clear h
  by_cases hn2 : 1048576 < n
  · go_enter Try.func5, Try.ntmps5
    go_wp2_with fail
    go_ret
    exact ⟨rfl, Below.refl _ _⟩
  · go_enter Try.func5, Try.ntmps5
    go_wp2_with fail
    (go_at_call 21; refine (drawStrOk_any ao n cap _ H.out hn).mono ?_; rintro e w1 ⟨s, rfl, hs, b1⟩)
    have B1 := Lib.hid b1
    clear b1
    obtain ⟨b, hb⟩ : ∃ b, b = strB s.data.toList := ⟨_, rfl⟩
    have HI : Hid (∀ w, Calls Try.prog 22 #[.string s] w fun e w' => e = .returned (.bool b) ∧ Below w.heap.size w w') := fun w => by rw [hb]; exact implStr_any s w (by omega)
    have HS : Hid (∀ w, Calls Try.prog 23 #[.string s] w fun e w' => e = .returned (.bool b) ∧ Below w.heap.size w w') := fun w => by rw [hb]; exact specStr_any s w (by omega)
    have HB := Lib.hid hb
    clear hb
    go_wp2_with fail
    (go_at_call 22; refine (HI.out _).mono ?_; rintro e w2 ⟨rfl, b2⟩)
    have B2 := Lib.hid (B1.out.trans (b2.mono B1.out.size))
    clear b2
    go_wp2_with fail
    (go_at_call 23; refine (HS.out _).mono ?_; rintro e w3 ⟨rfl, b3⟩)
    have B3 := Lib.hid (B2.out.trans (b3.mono B2.out.size))
    clear b3
    cases b
    · go_wp2_with fail
      (go_at_call 16; refine (haOk_any _).mono ?_; rintro e w2 ⟨rfl, rfl⟩)
      go_wp2_with fail
      go_ret
      exact ⟨rfl, B3.out⟩
    · obtain ⟨p1, p2, p3⟩ := str_parts HB.out.symm
      rw [len_list] at p1
      have HL : Hid (∀ k, ∀ w, Calls Try.prog 22 #[.string (s.extract 0 k)] w fun e w' => e = .returned (.bool true) ∧ Below w.heap.size w w') := fun k w => str_ext hs HB.out.symm k w
      have HR : Hid (∀ w, Calls Try.prog 24 #[.string ⟨(restL s.data.toList).toArray⟩] w fun e w' => e = .returned (.bool true) ∧ w = w') := fun w => by
        have := implLin_all ⟨(restL s.data.toList).toArray⟩ w
        rw [show (⟨(restL s.data.toList).toArray⟩ : ByteArray).data.toList = restL s.data.toList from rfl, p3] at this
        exact this
      have HX : Hid (∀ x ∈ linesL s.data.toList, ∀ w, Calls Try.prog 24 #[.string ⟨x.toArray⟩] w fun e w' => e = .returned (.bool true) ∧ w = w') := fun x hx w => by
        have := implLin_all ⟨x.toArray⟩ w
        rw [show (⟨x.toArray⟩ : ByteArray).data.toList = x from rfl, p2 x hx] at this
        exact this
      have hli : (s.size : Int) ≤ 120 := by omega
      have hll := lines_len s.data.toList
      rw [len_list] at hll
      clear p2 p3
      go_wp2_with fail
      go_loopw [5] (fun i wr => ∃ k : Nat, k ≤ s.size ∧ i = .int .i64 k ∧ Hid (Below w.heap.size w wr)) (fun i _ => s.size - (intOf i).toNat)
      case atStart => exact ⟨0, Nat.zero_le _, rfl, B3⟩
      case round =>
        obtain ⟨k, hk, rfl, hbel⟩ := hrel
        by_cases hlt : k < s.size
        · have hlti : (k : Int) < (s.size : Int) := by omega
          go_wp2_with fail
          (go_at_call 22; refine (HL.out k _).mono ?_; rintro e w4 ⟨rfl, b4⟩)
          go_wp2_with fail
          go_roundw
          case rel => exact ⟨k + 1, by omega, by go_num, hbel.out.trans (b4.mono hbel.out.size)⟩
          case measure => simp [intOf]; omega
        · have hlti : ¬ (k : Int) < (s.size : Int) := by omega
          go_wp2_with fail
          (go_at_call 18; refine (implLines_any s _ (by omega)).mono ?_; rintro e w5 ⟨v, rfl, own5, b5⟩)
          obtain ⟨a1, cap1, rfl⟩ := own_form own5
          have B5 := Lib.hid (hbel.out.trans (b5.mono hbel.out.size))
          have O5 := Lib.hid own5
          clear own5 b5
          go_wp2_with fail
          go_loop [8] (fun i => ∃ k : Nat, k ≤ (linesL s.data.toList).length ∧ i = .int .i64 k) (fun i => (linesL s.data.toList).length - (intOf i).toNat)
          case atStart => exact ⟨0, Nat.zero_le _, rfl⟩
          case round =>
            obtain ⟨j, hj, rfl⟩ := hrel
            by_cases hjl : j < (linesL s.data.toList).length
            · have hjli : (j : Int) < ((linesL s.data.toList).length : Int) := by omega
              obtain ⟨g, cap2, e1, gB, gl, hcap, hcells⟩ := own_cells O5.out (by omega)
              obtain ⟨x, hx⟩ : ∃ x, x = (linesL s.data.toList)[j] := ⟨_, rfl⟩
              have hcell : w5.cell? ⟨g, j, none⟩ = some (.string ⟨x.toArray⟩) := by
                rw [(hcells j (by simpa using hjl)).1]; simp [hx, strV]
              have HX1 := Lib.hid (HX.out x (by rw [hx]; exact List.getElem_mem _))
              simp at e1
              obtain ⟨rfl, rfl⟩ := e1
              clear hx hcells
              go_wp2_with fail
              (go_at_call 24; refine (HX1.out _).mono ?_; rintro e w6 ⟨rfl, rfl⟩)
              go_wp2_with fail
              go_round
              case rel => exact ⟨j + 1, by omega, by go_num⟩
              case measure => simp [intOf]; omega
            · have hjli : ¬ (j : Int) < ((linesL s.data.toList).length : Int) := by omega
              go_wp2_with fail
              (go_at_call 24; refine (HR.out _).mono ?_; rintro e w6 ⟨rfl, rfl⟩)
              go_wp2_with fail
              go_ret
              exact ⟨rfl, B5.out⟩

end Go.Proofs.Ytllekjkmjadohaa
