/- The law that a beginning of a text has its first lines: at every code. Condition: the code lies in memory. -/
import Derived.Test.YtllekjkmjadohaaDrawStrs
import Derived.Test.YtllekjkmjadohaaHaOk
import Derived.Test.YtllekjkmjadohaaHaTexts
import Derived.Test.YtllekjkmjadohaaSLine
import Derived.Test.YtllekjkmjadohaaLinesP
import Derived.Test.YtllekjkmjadohaaILines
namespace Go.Proofs.Ytllekjkmjadohaa
open Go.RowKit

/-- The first texts of a list that a slice reads as. -/
theorem rdv_prefix {w : World} {a : Option Addr} {cap : Nat} {xs ys : List (List UInt8)} (h : RdV w (.slice a xs.length cap) (xs.map strV)) (hp : ys <+: xs) : RdV w (.slice a ys.length cap) (ys.map strV) := by
  obtain ⟨a', cap', e, hr⟩ := h
  simp only [Value.slice.injEq] at e
  obtain ⟨rfl, _, rfl⟩ := e
  refine ⟨a, cap, by rw [List.length_map], fun hn => ?_⟩
  rw [List.length_map] at hn
  have hl := hp.length_le
  obtain ⟨g, rfl, hrow⟩ := hr (by rw [List.length_map]; omega)
  refine ⟨g, rfl, fun i hi => ?_⟩
  rw [List.length_map] at hi
  have hx : i < (xs.map strV).length := by rw [List.length_map]; omega
  obtain ⟨q1, q2⟩ := hrow i hx
  refine ⟨?_, q2⟩
  rw [q1, List.getElem_map, List.getElem_map]
  obtain ⟨t, rfl⟩ := hp
  rw [List.getElem_append_left hi]

set_option maxRecDepth 100000 in
set_option maxHeartbeats 3200000 in
theorem lwStrPart_any (ao : Option Addr) (n cap : Nat) (w : World) (h : BytesIn w ao n) (hn : n ≤ cap) :
    Calls Try.prog 8 #[.slice ao n cap] w fun e w' => e = .returned (.bool true) ∧ Below w.heap.size w w' := by
  have H := Lib.hid h
  clear h
  by_cases hn2 : 1048576 < n
  · go_enter Try.func8, Try.ntmps8
    go_wp2_with fail
    go_ret
    exact ⟨rfl, Below.refl _ _⟩
  · go_enter Try.func8, Try.ntmps8
    go_wp2_with fail
    (go_at_call 17; refine (drawStrLines_any ao n cap _ H.out hn).mono ?_; rintro e w1 ⟨s, rfl, hs, b1⟩)
    have B1 := Lib.hid b1
    clear b1
    have hll := lines_len s.data.toList
    rw [len_list] at hll
    obtain ⟨xs, hxs⟩ : ∃ xs, xs = linesL s.data.toList := ⟨_, rfl⟩
    obtain ⟨r, hr⟩ : ∃ r : ByteArray, r = ⟨(restL s.data.toList).toArray⟩ := ⟨_, rfl⟩
    have HI : Hid (∀ w, Calls Try.prog 18 #[.string s] w fun e w' => ∃ v, e = .returned (.tuple #[v, .string r]) ∧ w'.ownsRow w.heap.size 9 1 v xs.length (xs.map strV) ∧ Below w.heap.size w w') := fun w => by rw [hxs, hr]; exact implLines_any s w (by omega)
    have HS : Hid (∀ w, Calls Try.prog 19 #[.string s] w fun e w' => ∃ v, e = .returned (.tuple #[v, .string r]) ∧ w'.ownsRow w.heap.size 9 1 v xs.length (xs.map strV) ∧ Below w.heap.size w w') := fun w => by rw [hxs, hr]; exact specLines_any s w (by omega)
    have HK : Hid (∀ k, k ≤ s.size → ∃ (ys : List (List UInt8)) (t : ByteArray), ys <+: xs ∧ t.size ≤ k ∧ ∀ w, Calls Try.prog 18 #[.string (s.extract 0 k)] w fun e w' => ∃ v, e = .returned (.tuple #[v, .string t]) ∧ w'.ownsRow w.heap.size 9 1 v ys.length (ys.map strV) ∧ Below w.heap.size w w') := fun k hk => by
      have e : (s.extract 0 k).data.toList = s.data.toList.take k := by rw [ext_list]; simp
      refine ⟨linesL (s.data.toList.take k), ⟨(restL (s.data.toList.take k)).toArray⟩, by rw [hxs]; exact lines_take _ _, ?_, fun w => ?_⟩
      · have := rest_le (s.data.toList.take k)
        rw [List.length_take] at this
        show (restL (s.data.toList.take k)).length ≤ k
        omega
      · have := implLines_any (s.extract 0 k) w (by simp; omega)
        rwa [e] at this
    have hxl : xs.length ≤ 200 := by rw [hxs]; omega
    clear hxs hr hll
    go_wp2_with fail
    (go_at_call 18; refine (HI.out _).mono ?_; rintro e w2 ⟨v2, rfl, own2, b2⟩)
    obtain ⟨a, cap2, rfl⟩ := own_form own2
    have hA : (a = none ∧ xs.length = 0) ∨ (∃ g, a = some ⟨g, 0, none⟩ ∧ xs.length ≤ cap2) := by
      rcases own2.2 with ⟨hv, h0⟩ | ⟨g, c, cur, hv, _, _, h2, _⟩
      · simp at hv; exact .inl ⟨hv.1, h0⟩
      · simp at hv; obtain ⟨e1, e2⟩ := hv; subst e2; exact .inr ⟨g, e1, h2⟩
    have B2 := Lib.hid (B1.out.trans (b2.mono B1.out.size))
    have D2 : Hid (RdV w2 (.slice a xs.length cap2) (xs.map strV)) := (RdV.of_own own2).1
    clear own2 b2
    go_wp2_with fail
    (go_at_call 19; refine (HS.out _).mono ?_; rintro e w3 ⟨v3, rfl, own3, b3⟩)
    have B3 := Lib.hid (B2.out.trans (b3.mono B2.out.size))
    have D3 : Hid (RdV w3 v3 (xs.map strV)) := (RdV.of_own own3).1
    have D23 : Hid (RdV w3 (.slice a xs.length cap2) (xs.map strV)) := D2.out.below b3
    clear own3 b3
    go_wp2_with fail
    (go_at_call 20; refine (haTexts_same xs _ v3 _ (by omega) D23.out D3.out).mono ?_; rintro e w4 ⟨rfl, b4⟩)
    have B4 := Lib.hid (B3.out.trans (b4.mono B3.out.size))
    have D4 : Hid (RdV w4 (.slice a xs.length cap2) (xs.map strV)) := D23.out.below b4
    clear b4 D2 D23
    rcases hA with ⟨rfl, hx0⟩ | ⟨g, rfl, hxc⟩
    · obtain rfl : xs = [] := List.eq_nil_of_length_eq_zero hx0
      simp only [List.length_nil, List.map_nil] at *
      go_wp2_with fail
      go_loopw [8] (fun i wr => ∃ k : Nat, k ≤ s.size ∧ i = .int .i64 k ∧ Hid (Below w4.heap.size w4 wr)) (fun i _ => s.size - (intOf i).toNat)
      case atStart => exact ⟨0, Nat.zero_le _, rfl, Lib.hid (Below.refl _ _)⟩
      case round =>
        obtain ⟨k, hk, rfl, hbel⟩ := hrel
        by_cases hlt : k < s.size
        · have hlti : (k : Int) < (s.size : Int) := by omega
          obtain ⟨ys, t, hp, ht, hcall⟩ := HK.out k hk
          obtain rfl : ys = [] := List.eq_nil_of_length_eq_zero (by have := hp.length_le; simpa using this)
          have HC := Lib.hid hcall
          have hti : ¬ (k : Int) < (t.size : Int) := by omega
          clear hcall hp
          go_wp2_with fail
          (go_at_call 18; refine (HC.out _).mono ?_; rintro e w5 ⟨v5, rfl, own5, b5⟩)
          obtain ⟨a5, cap5, rfl⟩ := own_form own5
          have B5 := Lib.hid (hbel.out.trans (b5.mono hbel.out.size))
          clear own5 b5
          go_wp2_with fail
          (go_at_call 20; refine (haTexts_same [] _ _ _ (by simp) ⟨none, cap2, rfl, fun h => absurd h (by simp)⟩ ⟨a5, cap5, rfl, fun h => absurd h (by simp)⟩).mono ?_; rintro e w6 ⟨rfl, b6⟩)
          go_wp2_with fail
          go_roundw
          case rel => exact ⟨k + 1, by omega, by go_num, Lib.hid (B5.out.trans (b6.mono B5.out.size))⟩
          case measure => simp [intOf]; omega
        · have hlti : ¬ (k : Int) < (s.size : Int) := by omega
          go_wp2_with fail
          (go_at_call 16; refine (haOk_any _).mono ?_; rintro e w6 ⟨rfl, rfl⟩)
          go_wp2_with fail
          go_ret
          exact ⟨rfl, B4.out.trans (hbel.out.mono B4.out.size)⟩

    · go_wp2_with fail
      go_loopw [8] (fun i wr => ∃ k : Nat, k ≤ s.size ∧ i = .int .i64 k ∧ Hid (Below w4.heap.size w4 wr)) (fun i _ => s.size - (intOf i).toNat)
      case atStart => exact ⟨0, Nat.zero_le _, rfl, Lib.hid (Below.refl _ _)⟩
      case round =>
        obtain ⟨k, hk, rfl, hbel⟩ := hrel
        by_cases hlt : k < s.size
        · have hlti : (k : Int) < (s.size : Int) := by omega
          obtain ⟨ys, t, hp, ht, hcall⟩ := HK.out k hk
          have HC := Lib.hid hcall
          have HP := Lib.hid hp
          have hyl := hp.length_le
          have hyli : ¬ (xs.length : Int) < (ys.length : Int) := by omega
          have hti : ¬ (k : Int) < (t.size : Int) := by omega
          have D5 : Hid (RdV wr (.slice (some ⟨g, 0, none⟩) ys.length cap2) (ys.map strV)) := rdv_prefix (D4.out.below hbel.out) hp
          clear hcall hp
          go_wp2_with fail
          (go_at_call 18; refine (HC.out _).mono ?_; rintro e w5 ⟨v5, rfl, own5, b5⟩)
          obtain ⟨a5, cap5, rfl⟩ := own_form own5
          have D6 : Hid (RdV w5 (.slice (some ⟨g, 0, none⟩) ys.length cap2) (ys.map strV)) := D5.out.below b5
          have D7 : Hid (RdV w5 (.slice a5 ys.length cap5) (ys.map strV)) := (RdV.of_own own5).1
          have B5 := Lib.hid (hbel.out.trans (b5.mono hbel.out.size))
          clear own5 b5
          have hyc : (ys.length : Int) ≤ (cap2 : Int) := by omega
          go_wp2_with fail
          (go_at_call 20; refine (haTexts_same ys _ _ _ (by omega) D6.out D7.out).mono ?_; rintro e w6 ⟨rfl, b6⟩)
          go_wp2_with fail
          go_roundw
          case rel => exact ⟨k + 1, by omega, by go_num, Lib.hid (B5.out.trans (b6.mono B5.out.size))⟩
          case measure => simp [intOf]; omega
        · have hlti : ¬ (k : Int) < (s.size : Int) := by omega
          go_wp2_with fail
          (go_at_call 16; refine (haOk_any _).mono ?_; rintro e w6 ⟨rfl, rfl⟩)
          go_wp2_with fail
          go_ret
          exact ⟨rfl, B4.out.trans (hbel.out.mono B4.out.size)⟩

end Go.Proofs.Ytllekjkmjadohaa
