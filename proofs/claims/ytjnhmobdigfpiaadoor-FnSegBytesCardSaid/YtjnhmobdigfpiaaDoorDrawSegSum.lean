/- The bytes that are drawn for sums, and a byte that is turned is another one. Condition: the code lies in memory. -/
import Derived.Test.YtjnhmobdigfpiaaDoorDrawSegRead
namespace Go.Proofs.YtjnhmobdigfpiaaDoor
open Go.RowKit

theorem xor_ne (a b : Nat) (ha : a < 256) (hb : b < 256) (h0 : 0 < b) : ∃ c : UInt8, bits .xor .u8 (a : Int) (b : Int) = (c.toNat : Int) ∧ c.toNat ≠ a := by
  have hlt : a ^^^ b < 256 := Nat.xor_lt_two_pow (n := 8) ha hb
  have h1 : (BitVec.ofInt 8 (a : Int)).toNat = a := by
    rw [BitVec.ofInt_natCast, BitVec.toNat_ofNat]; exact Nat.mod_eq_of_lt (by omega)
  have h2 : (BitVec.ofInt 8 (b : Int)).toNat = b := by
    rw [BitVec.ofInt_natCast, BitVec.toNat_ofNat]; exact Nat.mod_eq_of_lt (by omega)
  have hx : a ^^^ b ≠ a := fun e => by
    have h3 : a ^^^ (a ^^^ b) = b := by rw [← Nat.xor_assoc, Nat.xor_self, Nat.zero_xor]
    rw [e, Nat.xor_self] at h3
    omega
  have hv : bits .xor .u8 (a : Int) (b : Int) = ((a ^^^ b : Nat) : Int) := by
    show IntKind.u8.wrap ((BitVec.ofInt 8 (a : Int) ^^^ BitVec.ofInt 8 (b : Int)).toNat : Int) = _
    rw [BitVec.toNat_xor, h1, h2, IntWalk.u8_in _ (by omega)]
  rw [hv]
  obtain ⟨z, hz⟩ : ∃ z, z = a ^^^ b := ⟨_, rfl⟩
  rw [← hz] at hlt hx ⊢
  clear hz hv
  have hc : (UInt8.ofNat z).toNat = z := by simp; omega
  exact ⟨UInt8.ofNat z, by rw [hc], by rw [hc]; exact hx⟩

set_option maxRecDepth 100000 in
set_option maxHeartbeats 800000 in
theorem drawSegSum_any (ao : Option Addr) (n cap : Nat) (w : World) (h : BytesIn w ao n) (hn : n ≤ cap) :
    Calls Tryd.prog 6 #[.slice ao n cap] w fun e w' => ∃ g c l, e = .returned (.slice (some ⟨g, 0, none⟩) (l : List UInt8).length c) ∧ OwnB w' w.heap.size (.slice (some ⟨g, 0, none⟩) l.length c) l ∧ l.length ≤ 300 ∧ Below w.heap.size w w' := by
  have H := Lib.hid h
  clear h
  go_enter Tryd.func6, Tryd.ntmps6
  go_wp2_with fail
  (go_at_call 26; refine (drawSegRead_any ao n cap _ H.out hn).mono ?_; rintro e w1 ⟨g, c, N, l, rfl, hN, o, hl, b1⟩)
  subst hN
  have O := Lib.hid o
  clear o
  go_wp2_with fail
  go_ret
  exact ⟨g, c, l, rfl, O.out, hl, b1⟩

end Go.Proofs.YtjnhmobdigfpiaaDoor
