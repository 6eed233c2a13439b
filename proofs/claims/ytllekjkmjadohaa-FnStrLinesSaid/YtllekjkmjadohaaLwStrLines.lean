/- The law that a stream is its lines: at every code. Condition: the code lies in memory. -/
import Derived.Test.YtllekjkmjadohaaDrawStrs
import Derived.Test.YtllekjkmjadohaaHaOk
import Derived.Test.YtllekjkmjadohaaHaTexts
import Derived.Test.YtllekjkmjadohaaSLine
import Derived.Test.YtllekjkmjadohaaLinesP
import Derived.Test.YtllekjkmjadohaaILines
namespace Go.Proofs.Ytllekjkmjadohaa
open Go.RowKit

/-- The first k lines, each with its sign behind it. -/
def flatP (xs : List (List UInt8)) (k : Nat) : List UInt8 := ((xs.take k).map (· ++ [59])).flatten
theorem flatP_succ {xs : List (List UInt8)} {k : Nat} (h : k < xs.length) : flatP xs (k + 1) = flatP xs k ++ xs[k] ++ [59] := by
  unfold flatP; rw [List.take_succ_eq_append_getElem h]
  simp only [List.map_append, List.map_cons, List.map_nil, List.flatten_append, List.flatten_cons, List.flatten_nil, List.append_nil, List.append_assoc]
theorem flatP_all (l : List UInt8) : flatP (linesL l) (linesL l).length ++ restL l = l := by
  unfold flatP; rw [List.take_length]; exact flatL_lines l
theorem flatP_len (l : List UInt8) (k : Nat) : (flatP (linesL l) k).length ≤ l.length := by
  have h1 := congrArg List.length (flatP_all l)
  rw [List.length_append] at h1
  have h2 : flatP (linesL l) (linesL l).length = flatP (linesL l) k ++ (((linesL l).drop k).map (· ++ [59])).flatten := by
    unfold flatP; rw [List.take_length, List.map_take, List.map_drop, ← List.flatten_append, List.take_append_drop]
  have h3 := congrArg List.length h2
  rw [List.length_append] at h3
  omega

set_option maxRecDepth 100000 in
set_option maxHeartbeats 3200000 in
theorem lwStrLines_any (ao : Option Addr) (n cap : Nat) (w : World) (h : BytesIn w ao n) (hn : n ≤ cap) :
    Calls Try.prog 4 #[.slice ao n cap] w fun e w' => e = .returned (.bool true) ∧ Below w.heap.size w w' := by
  have H := Lib.hid h
  clear h
  by_cases hn2 : 1048576 < n
  · go_enter Try.func4, Try.ntmps4
    go_wp2_with fail
    go_ret
    exact ⟨rfl, Below.refl _ _⟩
  · go_enter Try.func4, Try.ntmps4
    go_wp2_with fail
    (go_at_call 17; refine (drawStrLines_any ao n cap _ H.out hn).mono ?_; rintro e w1 ⟨s, rfl, hs, b1⟩)
    have B1 := Lib.hid b1
    clear b1
    have hll := lines_len s.data.toList
    rw [len_list] at hll
    obtain ⟨xs, hxs⟩ : ∃ xs, xs = linesL s.data.toList := ⟨_, rfl⟩
    obtain ⟨r, hr⟩ : ∃ r : ByteArray, r = ⟨(restL s.data.toList).toArray⟩ := ⟨_, rfl⟩
    have HI : Hid (∀ w, Calls Try.prog 18 #[.string s] w fun e w' => ∃ v, e = .returned (.tuple #[v, .string r]) ∧ w'.ownsRow w.heap.size 9 1 v xs.length (xs.map strV) ∧ Below w.heap.size w w') := fun w => by rw [hxs, hr]; exact implLines_any s w (by omega)
    have HS : Hid (∀ w, Calls Try.prog 19 #[.string s] w fun e w' => ∃ v, e = .returned (.tuple #[v, .string r]) ∧ w'.ownsRow w.heap.size 9 1 v xs.length (xs.map strV) ∧ Below w.heap.size w w') := fun w => by rw [hxs, hr]; exact specLines_any s w (by omega)
    have HA : Hid ((⟨(flatP xs xs.length).toArray⟩ : ByteArray) ++ r = s) := by
      show _ ++ r = s
      rw [hxs, hr]
      apply ByteArray.ext
      have := flatP_all s.data.toList
      apply Array.toList_inj.1
      simp [this]
    have HF : Hid (∀ k, (flatP xs k).length ≤ s.size) := fun k => by rw [hxs, ← len_list]; exact flatP_len _ k
    have HN : Hid (∀ k (hk : k < xs.length), ∀ i (hi : i < xs[k].length), (((xs[k][i]).toNat : Int) == 59) = false) := fun k hk i hi => by
      subst hxs
      have h1 := line_noSemi (List.getElem_mem hk) _ (List.getElem_mem hi)
      simp
      intro e
      apply h1
      apply UInt8.toNat_inj.1
      have : (59 : UInt8).toNat = 59 := rfl
      omega
    have hrl : r.size ≤ s.size := by rw [hr]; show (restL s.data.toList).length ≤ _; have := rest_le s.data.toList; rwa [len_list] at this
    have hxl : xs.length ≤ 200 := by rw [hxs]; omega
    clear hxs hr hll
    go_wp2_with fail
    (go_at_call 18; refine (HI.out _).mono ?_; rintro e w2 ⟨v2, rfl, own2, b2⟩)
    have B2 := Lib.hid (B1.out.trans (b2.mono B1.out.size))
    have D2 : Hid (RdV w2 v2 (xs.map strV)) := (RdV.of_own own2).1
    clear own2 b2
    go_wp2_with fail
    (go_at_call 19; refine (HS.out _).mono ?_; rintro e w3 ⟨v3, rfl, own3, b3⟩)
    have B3 := Lib.hid (B2.out.trans (b3.mono B2.out.size))
    have D3 : Hid (RdV w3 v3 (xs.map strV)) := (RdV.of_own own3).1
    have D23 : Hid (RdV w3 v2 (xs.map strV)) := D2.out.below b3
    clear own3 b3
    go_wp2_with fail
    (go_at_call 20; refine (haTexts_same xs v2 v3 _ (by omega) D23.out D3.out).mono ?_; rintro e w4 ⟨rfl, b4⟩)
    have B4 := Lib.hid (B3.out.trans (b4.mono B3.out.size))
    have D4 : Hid (RdV w4 v2 (xs.map strV)) := D23.out.below b4
    clear b4
    obtain ⟨a, cap2, rfl, hrow⟩ := D4.out
    simp only [List.length_map] at hrow D4 D2 D23 ⊢
    have HROW := Lib.hid hrow
    clear hrow D2 D23 D4
    go_wp2_with fail
    go_loop [8, 9] (fun tv i => ∃ k : Nat, k ≤ xs.length ∧ i = .int .i64 k ∧ tv = .string ⟨(flatP xs k).toArray⟩) (fun _ i => xs.length - (intOf i).toNat)
    case atStart => exact ⟨0, Nat.zero_le _, rfl, rfl⟩
    case round =>
      obtain ⟨k, hk, rfl, rfl⟩ := hrel
      by_cases hlt : k < xs.length
      · have hlti : (k : Int) < (xs.length : Int) := by omega
        obtain ⟨g, rfl, q1⟩ := HROW.out (by omega)
        have hcell := eq_cell q1 (i := k) (by simpa using hlt)
        obtain ⟨x, hx⟩ : ∃ x, x = xs[k] := ⟨_, rfl⟩
        simp only [List.getElem_map, ← hx, strV] at hcell
        have HFS : Hid (flatP xs (k + 1) = flatP xs k ++ x ++ [59]) := by show _ = _; rw [flatP_succ hlt, hx]
        have hfl := HF.out (k + 1)
        rw [HFS.out, List.length_append, List.length_append, List.length_singleton] at hfl
        have HNX : Hid (∀ i (hi : i < (⟨x.toArray⟩ : ByteArray).size), ((((⟨x.toArray⟩ : ByteArray)[i]).toNat : Int) == 59) = false) := by
          intro i hi
          subst hx
          exact HN.out k hlt i hi
        have n1 : ¬ 9223372036854775807 < (flatP xs k).length + x.length := by omega
        have n2 : ¬ 9223372036854775807 < (flatP xs k).length + x.length + 1 := by omega
        have HX := Lib.hid hx
        clear hx q1 hfl
        go_wp2_with fail
        go_loop [10] (fun i => ∃ j : Nat, j ≤ x.length ∧ i = .int .i64 j) (fun i => x.length - (intOf i).toNat)
        case atStart => exact ⟨0, Nat.zero_le _, rfl⟩
        case round =>
          obtain ⟨j, hj, rfl⟩ := hrel
          by_cases hjl : j < x.length
          · have hjli : (j : Int) < (x.length : Int) := by omega
            have hne := HNX.out j hjl
            go_wp2_with fail
            go_round
            case rel => exact ⟨j + 1, by omega, by go_num⟩
            case measure => simp [intOf]; omega
          · have hjli : ¬ (j : Int) < (x.length : Int) := by omega
            go_wp2_with fail
            go_round
            case rel => exact ⟨k + 1, by omega, by go_num, by rw [HFS.out]; congr 1⟩
            case measure => simp [intOf]; omega
      · have hlti : ¬ (k : Int) < (xs.length : Int) := by omega
        obtain rfl : k = xs.length := by omega
        have hEQ : ((⟨(flatP xs xs.length).toArray⟩ : ByteArray) ++ r).toList = s.toList := by rw [HA.out]
        have n3 : ¬ 9223372036854775807 < (flatP xs xs.length).length + r.size := by have := HF.out xs.length; omega
        go_wp2_with fail
        (go_at_call 16; refine (haOk_any _).mono ?_; rintro e w2 ⟨rfl, rfl⟩)
        go_wp2_with fail
        go_ret
        exact ⟨rfl, B4.out⟩

end Go.Proofs.Ytllekjkmjadohaa
