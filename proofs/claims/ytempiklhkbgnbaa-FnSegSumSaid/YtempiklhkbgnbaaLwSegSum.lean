/- The law on sums: at every code. Condition: the code lies in memory. -/
import Derived.Test.YtempiklhkbgnbaaDrawSegRead
import Derived.Test.YtempiklhkbgnbaaHaOk
import Derived.Deep.RegionWith
namespace Go.Proofs.Ytempiklhkbgnbaa
open Go.RowKit

theorem xor_ne (a b : Nat) (ha : a < 256) (hb : b < 256) (h0 : 0 < b) : ∃ c : UInt8, bits .xor .u8 (a : Int) (b : Int) = (c.toNat : Int) ∧ c.toNat ≠ a := by
  have hlt : a ^^^ b < 256 := Nat.xor_lt_two_pow (n := 8) ha hb
  have h1 : (BitVec.ofInt 8 (a : Int)).toNat = a := by
    rw [BitVec.ofInt_natCast, BitVec.toNat_ofNat]; exact Nat.mod_eq_of_lt (by omega)
  have h2 : (BitVec.ofInt 8 (b : Int)).toNat = b := by
    rw [BitVec.ofInt_natCast, BitVec.toNat_ofNat]; exact Nat.mod_eq_of_lt (by omega)
  have hx : a ^^^ b ≠ a := fun e => by
    have h3 : a ^^^ (a ^^^ b) = b := by rw [← Nat.xor_assoc, Nat.xor_self, Nat.zero_xor]
    rw [e, Nat.xor_self] at h3
    omega
  have hv : bits .xor .u8 (a : Int) (b : Int) = ((a ^^^ b : Nat) : Int) := by
    show IntKind.u8.wrap ((BitVec.ofInt 8 (a : Int) ^^^ BitVec.ofInt 8 (b : Int)).toNat : Int) = _
    rw [BitVec.toNat_xor, h1, h2, IntWalk.u8_in _ (by omega)]
  rw [hv]
  obtain ⟨z, hz⟩ : ∃ z, z = a ^^^ b := ⟨_, rfl⟩
  rw [← hz] at hlt hx ⊢
  clear hz hv
  have hc : (UInt8.ofNat z).toNat = z := by simp; omega
  exact ⟨UInt8.ofNat z, by rw [hc], by rw [hc]; exact hx⟩

set_option maxRecDepth 100000 in
set_option maxHeartbeats 800000 in
theorem drawSegSum_any (ao : Option Addr) (n cap : Nat) (w : World) (h : BytesIn w ao n) (hn : n ≤ cap) :
    Calls Try.prog 7 #[.slice ao n cap] w fun e w' => ∃ a c l, e = .returned (.slice a (l : List UInt8).length c) ∧ OwnB w' w.heap.size (.slice a l.length c) l ∧ l.length ≤ 300 ∧ Below w.heap.size w w' := by
  have H := Lib.hid h
  clear h
  go_enter Try.func7, Try.ntmps7
  go_wp2_with fail
  (go_at_call 23; refine (drawSegRead_any ao n cap _ H.out hn).mono ?_; rintro e w1 ⟨v, l, rfl, o, hl, b1⟩)
  obtain ⟨a, c, e⟩ := o.form
  subst e
  have O := Lib.hid o
  clear o
  go_wp2_with fail
  go_ret
  exact ⟨a, c, l, rfl, O.out, hl, b1⟩

set_option maxRecDepth 100000 in
set_option maxHeartbeats 3200000 in
theorem lwSegSum_any (ao : Option Addr) (n cap : Nat) (w : World) (h : BytesIn w ao n) (hn : n ≤ cap) :
    Calls Try.prog 3 #[.slice ao n cap] w fun e w' => e = .returned (.bool true) ∧ Below w.heap.size w w' := by
  have H := Lib.hid h
  clear h
  by_cases hn2 : 1048576 < n
  · go_enter Try.func3, Try.ntmps3
    go_wp2_with fail
    go_ret
    exact ⟨rfl, Below.refl _ _⟩
  go_enter Try.func3, Try.ntmps3
  go_wp2_with fail
  (go_at_call 7; refine (drawSegSum_any ao n cap _ H.out hn).mono ?_; rintro e w1 ⟨a, c, l, rfl, o1, hl, b1⟩)
  have O1 := Lib.hid o1
  have B1 := Lib.hid b1
  have RD : Hid (RdB w1 (.slice a l.length c) l) := o1.rd
  have hs1 := sumL_lt l
  obtain ⟨sm, hsm⟩ : ∃ s, s = sumL l := ⟨_, rfl⟩
  have HI : Hid (Calls Try.prog 8 #[.slice a l.length c] w1 fun e w' => e = .returned (.int .i64 (sm : Int)) ∧ w1 = w') := by rw [hsm]; exact implSum_any _ l w1 (by omega) RD.out
  have HM : Hid (Calls Try.prog 9 #[.slice a l.length c] w1 fun e w' => e = .returned (.int .i64 (sm : Int)) ∧ w1 = w') := by rw [hsm]; exact specSum_any _ l w1 (by omega) RD.out
  have hsl : ¬ (sm : Int) < 0 := by omega
  have hsl2 : ¬ (65520 : Int) < (sm : Int) := by rw [hsm]; omega
  have HSM := Lib.hid hsm
  clear o1 b1 hsm
  go_wp2_with fail
  (go_at_call 8; refine HI.out.mono ?_; rintro e w2 ⟨rfl, rfl⟩)
  by_cases h0 : l.length = 0
  · have h1 : sm = 1 := by rw [HSM.out, List.eq_nil_of_length_eq_zero h0]; rfl
    subst h1
    rw [h0] at HM ⊢
    clear HSM RD O1 HI h0 hl hs1 hsl hsl2
    go_wp2_with fail
    (go_at_call 9; refine HM.out.mono ?_; rintro e w2 ⟨rfl, rfl⟩)
    go_wp2_with fail
    go_ret
    exact ⟨rfl, B1.out⟩
  have h0i : ¬ (l.length : Int) = 0 := by omega
  obtain ⟨g, c', e', hc, -, hg, hr⟩ := O1.out.cells (by omega)
  simp at e'
  obtain ⟨rfl, rfl⟩ := e'
  have HR := Lib.hid hr
  have HO := Lib.hid (own_made_at w1 w1.heap.size w1.heap.size (Nat.le_refl _) rfl)
  obtain ⟨i0, hi, hz0, hz1, hz2⟩ := info_parts infoByte
  clear hr RD
  go_wp2_with fail
  (go_at_call 9; refine HM.out.mono ?_; rintro e w2 ⟨rfl, rfl⟩)
  clear HM HI
  go_wp2_with (at_builtin; refine wpList_append_own _ rfl (.tmp 30) (.tmp 31) 22 rfl w1.heap.size 5 i0 (.int .u8 0) 1 1 Try.underlying22 hi hz0 hz1 hz2 rfl (by decide) (.slice (some ⟨w1.heap.size, 0, none⟩) 0 0) 0 [] rfl HO.out ⟨g, 0, none⟩ l.length c (byV l) rfl ?c1 ?c2 ?c3 ?c4 ?c5 ?c6 ?_)
  case c1 => rw [byV_len, Nat.mul_one]
  case c2 => have := news_front (HR.out.below ((Below.refl _ _).alloc (Nat.le_refl _) (.cells #[] 5)) hg) l.length; rwa [List.take_of_length_le (Nat.le_refl _)] at this
  case c3 => exact byV_one l
  case c4 => unfold maxLen; omega
  case c5 => omega
  case c6 => simp
  · intro v' w3 hown hgrow hnil
    have HO3 : Hid (OwnB w3 w1.heap.size v' l) := by
      show World.ownsRow _ _ _ _ _ _ _
      simpa using hown
    have B3 : Hid (Below w.heap.size w w3) := (B1.out.alloc B1.out.size _).grown hgrow (by have := B1.out.size; simp; omega) (fun b e => by simp [Value.ownBlock] at e; have := B1.out.size; omega)
    obtain ⟨g3, c3, rfl, hc3, hB3, hg3, hr3⟩ := HO3.out.cells (by omega)
    obtain ⟨k, hk⟩ : ∃ k, k = n % l.length := ⟨_, rfl⟩
    have hk1 : k < l.length := by rw [hk]; exact Nat.mod_lt _ (by omega)
    obtain ⟨x, hx⟩ : ∃ x, x = l[k] := ⟨_, rfl⟩
    have q0 := row_byte hr3 (c := x) (List.getElem?_eq_some_iff.2 ⟨hk1, hx.symm⟩)
    have f0 := (hr3 k (by rw [byV_len]; exact hk1)).2
    have hk4 : (k : Int) < (l.length : Int) := by omega
    have hm1 : (n : Int).tmod (l.length : Int) = (k : Int) := by rw [hk]; rfl
    obtain ⟨y, hy⟩ : ∃ y, y = n % 255 := ⟨_, rfl⟩
    have hy9 : y ≤ 254 := by omega
    have hm2 : (n : Int).tmod 255 = (y : Int) := by rw [hy]; rfl
    have hw1 : IntKind.wrap .i64 (1 + (y : Int)) = 1 + (y : Int) := IntWalk.i64_in _ (by omega)
    have hw2 : IntKind.wrap .u8 (1 + (y : Int)) = 1 + (y : Int) := IntWalk.u8_in _ (by omega)
    have HX := Lib.hid hx
    clear hown hgrow hnil hr3 hx hk hy
    go_wp2_with fail
    obtain ⟨b, hbx, hbn⟩ := xor_ne x.toNat (1 + y) (by have := x.toNat_lt; omega) (by omega) (by omega)
    rw [show ((1 + y : Nat) : Int) = 1 + (y : Int) by omega] at hbx
    have hne : b ≠ l[k] := by
      rw [← HX.out]
      intro e
      exact hbn (by rw [e])
    have hsx := sumL_set hk1 hne
    have HI : Hid (Calls Try.prog 8 #[.slice (some ⟨g3, 0, none⟩) l.length c3] (w3.setCell ⟨g3, k, none⟩ (.int .u8 (b.toNat : Int))).drew fun e w' => e = .returned (.int .i64 (sumL (l.set k b) : Nat)) ∧ (w3.setCell ⟨g3, k, none⟩ (.int .u8 (b.toNat : Int))).drew = w') :=
      implSum_any _ (l.set k b) _ (by rw [List.length_set]; omega) (own_setB HO3.out b).drew.rd
    obtain ⟨s2, hs2⟩ : ∃ s, s = sumL (l.set k b) := ⟨_, rfl⟩
    rw [← hs2] at HI hsx
    have hne2 : ¬ (s2 : Int) = (sm : Int) := by rw [HSM.out]; omega
    clear hsx hs2 hs1 hne HX HSM
    go_region
    all_goals
      go_wp2_with fail
      (go_at_call 8; refine HI.out.mono ?_; rintro e w5 ⟨rfl, rfl⟩)
      go_wp2_with fail
      go_ret
      first
        | exact ⟨rfl, (B3.out.setCell (by have := B1.out.size; show w.heap.size ≤ g3; omega) _).drew⟩
        | exact ⟨ret_bool (by simp; omega), (B3.out.setCell (by have := B1.out.size; show w.heap.size ≤ g3; omega) _).drew⟩

end Go.Proofs.Ytempiklhkbgnbaa
