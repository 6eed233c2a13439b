/- The reader of a code: at each pick it gives some number below the bound; nothing but its own place turns. Conditions: the reader is there; its place is small. -/
import Derived.Test.YtglpijjkihpeeaaGreatDoorGen
import Derived.BigQuiet
import Derived.RegionTactic
import Derived.IntWalk
namespace Go.Proofs.YtglpijjkihpeeaaGreatDoor
open Go.RowKit

/-- A reader lies in block R: its bytes, at most 2000 of them, lie below B; its place is at most L. -/
def Rd (B R L : Nat) (w : World) : Prop := ∃ (ao : Option Addr) (n cap p : Nat), p ≤ L ∧ B ≤ R ∧ n ≤ 2000 ∧
  w.cell? ⟨R, 0, none⟩ = some (.slice ao n cap) ∧ w.cell? ⟨R, 1, none⟩ = some (.int .i64 (p : Int)) ∧ w.frozen? ⟨R, 1, none⟩ = false ∧
  (n = 0 ∨ ∃ x, ao = some x ∧ x.block < B ∧ ∀ i, i < n → ∃ c : UInt8, w.cell? (x.add i) = some (.int .u8 (c.toNat : Int)))

theorem addr_block (a : Addr) (i : Nat) : (a.add i).block = a.block := by unfold Addr.add; split <;> rfl
theorem grown_set (w : World) (R i : Nat) (v : Value) : w.grownBy (w.setCell ⟨R, i, none⟩ v) (some R) :=
  ⟨rfl, rfl, rfl, by simp [World.setCell], fun k _ hk => Below.heap_setCell _ _ _ k (fun e => hk (by rw [e]))⟩

theorem Rd.lt {B R L : Nat} {w : World} (h : Rd B R L w) : R < w.heap.size := by
  obtain ⟨ao, n, cap, p, _, _, _, h0, _⟩ := h
  exact World.block_lt_of_cell? w _ h0
theorem Rd.base {B R L : Nat} {w : World} (h : Rd B R L w) : B ≤ R := by
  obtain ⟨ao, n, cap, p, _, hb, _⟩ := h; exact hb
theorem Rd.mono {B R L L' : Nat} {w : World} (h : Rd B R L w) (hl : L ≤ L') : Rd B R L' w := by
  obtain ⟨ao, n, cap, p, hp, r⟩ := h; exact ⟨ao, n, cap, p, by omega, r⟩

set_option maxRecDepth 100000 in
set_option maxHeartbeats 1600000 in
theorem pick_zero (m : Int) (R n cap p : Nat) (ao : Option Addr) (w : World) (hp : p ≤ 1000000)
    (h0 : w.cell? ⟨R, 0, none⟩ = some (.slice ao n cap)) (h1 : w.cell? ⟨R, 1, none⟩ = some (.int .i64 (p : Int))) (f1 : w.frozen? ⟨R, 1, none⟩ = false) (hz : m < 1 ∨ n = 0) :
    Calls Tryz.prog 90 #[.pointer (some ⟨R, 0, none⟩), .int .i64 m] w fun e w' => e = .returned (.int .i64 0) ∧ w' = w.setCell ⟨R, 1, none⟩ (.int .i64 ((p : Int) + 1)) := by
  by_cases hm : m < 1
  · go_enter Tryz.func90, Tryz.ntmps90
    go_wp2_with fail
    go_ret
    exact ⟨rfl, by first | rfl | (congr 2; omega)⟩
  · obtain rfl : n = 0 := by omega
    go_enter Tryz.func90, Tryz.ntmps90
    go_wp2_with fail
    go_ret
    exact ⟨rfl, by first | rfl | (congr 2; omega)⟩

set_option maxRecDepth 100000 in
set_option maxHeartbeats 1600000 in
theorem pick_in (m : Int) (R n cap p : Nat) (x : Addr) (c : UInt8) (w : World) (hp : p ≤ 1000000) (hx : x.block ≠ R) (hpn : p < n)
    (h0 : w.cell? ⟨R, 0, none⟩ = some (.slice (some x) n cap)) (h1 : w.cell? ⟨R, 1, none⟩ = some (.int .i64 (p : Int))) (f1 : w.frozen? ⟨R, 1, none⟩ = false) (hm : 1 ≤ m)
    (hc : w.cell? (x.add p) = some (.int .u8 (c.toNat : Int))) :
    Calls Tryz.prog 90 #[.pointer (some ⟨R, 0, none⟩), .int .i64 m] w fun e w' => (∃ k : Nat, e = .returned (.int .i64 (k : Int)) ∧ (k : Int) < m) ∧ w' = w.setCell ⟨R, 1, none⟩ (.int .i64 ((p : Int) + 1)) := by
  have hc' : (w.setCell ⟨R, 1, none⟩ (.int .i64 ((p : Int) + 1))).cell? (x.add p) = some (.int .u8 (c.toNat : Int)) := by
    rw [World.cell?_setCell_other _ _ _ _ (fun e => hx (by have := congrArg Addr.block e; rw [addr_block] at this; exact this.symm))]; exact hc
  have hnz : ((n : Int) == 0) = false := by simp; omega
  have hmz : ¬ m < 1 := by omega
  have hlt : (p : Int) < (n : Int) := by omega
  go_enter Tryz.func90, Tryz.ntmps90
  go_wp2_with fail
  go_ret
  have e1 : (0 : Int) ≤ (c.toNat : Int) % m := Int.emod_nonneg _ (by omega)
  have e2 : (c.toNat : Int) % m < m := Int.emod_lt_of_pos _ (by omega)
  have e3 : (wrap64 (c.toNat : Int)).tmod m = (c.toNat : Int) % m := by
    have := c.toNat_lt
    rw [show wrap64 (c.toNat : Int) = (c.toNat : Int) by unfold wrap64; omega, Int.tmod_eq_emod_of_nonneg (by omega)]
  exact ⟨⟨((c.toNat : Int) % m).toNat, by rw [Int.toNat_of_nonneg e1, ← e3]; first | rfl | simp, by omega⟩, rfl⟩

theorem xor_i64 (a b : Nat) (ha : a < 9223372036854775808) (hb : b < 9223372036854775808) : bits .xor .i64 (a : Int) (b : Int) = ((a ^^^ b : Nat) : Int) := by
  have hx : a ^^^ b < 2 ^ 63 := Nat.xor_lt_two_pow (by omega) (by omega)
  have h1 : (BitVec.ofInt 64 (a : Int)).toNat = a := by
    rw [BitVec.ofInt_natCast, BitVec.toNat_ofNat]; exact Nat.mod_eq_of_lt (by omega)
  have h2 : (BitVec.ofInt 64 (b : Int)).toNat = b := by
    rw [BitVec.ofInt_natCast, BitVec.toNat_ofNat]; exact Nat.mod_eq_of_lt (by omega)
  show IntKind.i64.wrap ((BitVec.ofInt 64 (a : Int) ^^^ BitVec.ofInt 64 (b : Int)).toNat : Int) = _
  rw [BitVec.toNat_xor, h1, h2]
  exact IntWalk.i64_in _ (by omega)
theorem wrap_small {x : Int} (h0 : 0 ≤ x) (h1 : x ≤ 1000000000000) : wrap64 x = x := by unfold wrap64; omega
theorem mix_nat (a b p q : Nat) (ha : a < 256) (hb : b < 256) (hp : p ≤ 1000000) (hq : q ≤ 1000000) :
    ∃ K : Nat, bits .xor .i64 (wrap64 (wrap64 (wrap64 (wrap64 (wrap64 (a : Int) * 131) + wrap64 (wrap64 (b : Int) * 1117)) + (p : Int) * 29) + (q : Int) * 53))
      (wrap64 ((wrap64 (wrap64 (wrap64 (wrap64 (wrap64 (a : Int) * 131) + wrap64 (wrap64 (b : Int) * 1117)) + (p : Int) * 29) + (q : Int) * 53)).tdiv 64)) = (K : Int) := by
  have e : wrap64 (wrap64 (wrap64 (wrap64 (wrap64 (a : Int) * 131) + wrap64 (wrap64 (b : Int) * 1117)) + (p : Int) * 29) + (q : Int) * 53) = ((a * 131 + b * 1117 + p * 29 + q * 53 : Nat) : Int) := by
    rw [wrap_small (x := (a : Int)) (by omega) (by omega), wrap_small (x := (b : Int)) (by omega) (by omega), wrap_small (x := (a : Int) * 131) (by omega) (by omega), wrap_small (x := (b : Int) * 1117) (by omega) (by omega),
      wrap_small (x := (a : Int) * 131 + (b : Int) * 1117) (by omega) (by omega), wrap_small (x := (a : Int) * 131 + (b : Int) * 1117 + (p : Int) * 29) (by omega) (by omega), wrap_small (by omega) (by omega)]
    omega
  obtain ⟨X, hX⟩ : ∃ X, X = a * 131 + b * 1117 + p * 29 + q * 53 := ⟨_, rfl⟩
  rw [e, ← hX]
  have e2 : wrap64 (((X : Nat) : Int).tdiv 64) = ((X / 64 : Nat) : Int) := by
    rw [Int.tdiv_eq_ediv_of_nonneg (by omega), wrap_small (by omega) (by omega)]; omega
  rw [e2]
  exact ⟨_, xor_i64 _ _ (by omega) (by omega)⟩

set_option maxRecDepth 100000 in
set_option maxHeartbeats 1600000 in
theorem pick_mix (m : Int) (R n cap p : Nat) (x : Addr) (w : World) (hp : p ≤ 1000000) (hx : x.block ≠ R) (hn : n ≤ 2000) (hn1 : 1 ≤ n) (hpn : n ≤ p)
    (h0 : w.cell? ⟨R, 0, none⟩ = some (.slice (some x) n cap)) (h1 : w.cell? ⟨R, 1, none⟩ = some (.int .i64 (p : Int))) (f1 : w.frozen? ⟨R, 1, none⟩ = false) (hm : 1 ≤ m)
    (hc : ∀ i, i < n → ∃ c : UInt8, w.cell? (x.add i) = some (.int .u8 (c.toNat : Int))) :
    Calls Tryz.prog 90 #[.pointer (some ⟨R, 0, none⟩), .int .i64 m] w fun e w' => (∃ k : Nat, e = .returned (.int .i64 (k : Int)) ∧ (k : Int) < m) ∧ w' = (w.setCell ⟨R, 1, none⟩ (.int .i64 ((p : Int) + 1))).drew := by
  have hcs : ∀ i, i < n → ∃ c : UInt8, (w.setCell ⟨R, 1, none⟩ (.int .i64 ((p : Int) + 1))).cell? (x.add i) = some (.int .u8 (c.toNat : Int)) := by
    intro i hi
    obtain ⟨c, hc⟩ := hc i hi
    exact ⟨c, by rw [World.cell?_setCell_other _ _ _ _ (fun e => hx (by have := congrArg Addr.block e; rw [addr_block] at this; exact this.symm))]; exact hc⟩
  obtain ⟨i, hi⟩ : ∃ i, i = p % n := ⟨_, rfl⟩
  obtain ⟨j, hj⟩ : ∃ j, j = (p * 7 + 3) % n := ⟨_, rfl⟩
  obtain ⟨q, hq⟩ : ∃ q, q = p / n := ⟨_, rfl⟩
  have hin : i < n := by rw [hi]; exact Nat.mod_lt _ (by omega)
  have hjn : j < n := by rw [hj]; exact Nat.mod_lt _ (by omega)
  have hqn : q ≤ 1000000 := by rw [hq]; exact Nat.le_trans (Nat.div_le_self _ _) hp
  obtain ⟨c1, hc1⟩ := hcs i hin
  obtain ⟨c2, hc2⟩ := hcs j hjn
  have hnz : ((n : Int) == 0) = false := by simp; omega
  have hmz : ¬ m < 1 := by omega
  have hlt : ¬ (p : Int) < (n : Int) := by omega
  have hnI : (1 : Int) ≤ (n : Int) := by omega
  have hr1 : (p : Int) % (n : Int) = (i : Int) := by rw [hi]; simp
  have hr2 : ((p : Int) * 7 + 3) % (n : Int) = (j : Int) := by rw [hj]; simp
  have hr3 : (p : Int) / (n : Int) = (q : Int) := by rw [hq]; simp
  have hr4 : (p : Int).tdiv (n : Int) = (q : Int) := by rw [Int.tdiv_eq_ediv_of_nonneg (by omega)]; exact hr3
  clear hi hj hq
  clear hc hcs
  go_enter Tryz.func90, Tryz.ntmps90
  go_wp2_with fail
  obtain ⟨K, hK⟩ := mix_nat c1.toNat c2.toNat p q c1.toNat_lt c2.toNat_lt hp hqn
  have HK := Lib.hid hK
  clear hK
  go_region
  go_wp2
  go_ret
  have e1 : (0 : Int) ≤ (K : Int) % m := Int.emod_nonneg _ (by omega)
  have e2 : (K : Int) % m < m := Int.emod_lt_of_pos _ (by omega)
  refine ⟨⟨((K : Int) % m).toNat, ?_, by omega⟩, rfl⟩
  rw [Int.toNat_of_nonneg e1, ← Int.tmod_eq_emod_of_nonneg (show (0 : Int) ≤ (K : Int) by omega), ← HK.out]
  rfl

end Go.Proofs.YtglpijjkihpeeaaGreatDoor
