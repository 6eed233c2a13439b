/- A rule, and rules, as the law has them become the program's; what the law says of their size; two of the same rule, and of the same rules, are found the same. Condition: at most 2^22 rules. -/
import Derived.Test.YtglpijjkihpeeaaGreatDoorRul
import Derived.Deep.RegionWith
namespace Go.Proofs.YtglpijjkihpeeaaGreatDoor
open Go.RowKit

theorem infoRl : (Tryz.prog.info? 35).map (fun i => (i.zero, i.size, i.bytes)) = some (some (.agg #[.bool false, .int .i64 0, .int .i64 0, .int .i64 0, .int .i64 0, .int .i64 0, .int .i64 0]), 7, 56) := by kernel_rfl

/-- A block whose cells are these. -/
def Blk (w : World) (g : Nat) (t : TypeId) (l : List Value) : Prop := w.heap[g]? = some (.cells ⟨l⟩ t)
theorem Blk.lt {w : World} {g : Nat} {t : TypeId} {l : List Value} (h : Blk w g t l) : g < w.heap.size := (Array.getElem?_eq_some_iff.1 h).1
theorem Blk.below {w w' : World} {g : Nat} {t : TypeId} {l : List Value} (h : Blk w g t l) (hb : Below w.heap.size w w') : Blk w' g t l := (hb.block g h.lt).trans h
theorem Blk.set {w : World} {g : Nat} {t : TypeId} {l : List Value} (h : Blk w g t l) (j : Nat) (u : Value) : Blk (w.setCell ⟨g, j, none⟩ u) g t (l.set j u) := by
  unfold Blk at h ⊢
  show (w.heap.modify g _)[g]? = _
  rw [Array.getElem?_modify]
  simp [h]
theorem Blk.cell {w : World} {g : Nat} {t : TypeId} {l : List Value} (h : Blk w g t l) (j : Nat) (u : Value) (hu : l[j]? = some u) : w.cell? ⟨g, j, none⟩ = some u ∧ w.frozen? ⟨g, j, none⟩ = false := by
  unfold Blk at h
  exact ⟨by simp [World.cell?, h]; exact hu, by simp [World.frozen?, h]⟩
theorem Blk.own {w : World} {B g n : Nat} {t : TypeId} {l : List Value} (h : Blk w g t l) (hB : B ≤ g) (hl : l.length = n * 7) (hn : n ≤ maxLen) : w.ownsRow B t 7 (.slice (some ⟨g, 0, none⟩) n n) n l := by
  refine ⟨hl, Or.inr ⟨g, n, ⟨l⟩, rfl, hB, h, Nat.le_refl _, hn, by simpa using hl, ?_⟩⟩
  exact List.take_of_length_le (by show l.length ≤ _; omega)
theorem own_blk {w : World} {B g n k : Nat} {t : TypeId} {xs : List Value} (h : w.ownsRow B t k (.slice (some ⟨g, 0, none⟩) n n) n xs) : ∃ l, Blk w g t l ∧ l.length = n * k ∧ B ≤ g := by
  rcases h.2 with ⟨h0, _⟩ | ⟨g', cap', cur, hv, hB, hg, h2, _, hs, ht⟩
  · cases h0
  · simp at hv
    obtain ⟨rfl, rfl⟩ := hv
    obtain ⟨l⟩ := cur
    exact ⟨l, hg, by simpa using hs, hB⟩
theorem set7 (A r : List Value) (y0 y1 y2 y3 y4 y5 y6 u0 u1 u2 u3 u4 u5 u6 : Value) (m : Nat) (hm : A.length = m) :
    (((((((A ++ y0 :: y1 :: y2 :: y3 :: y4 :: y5 :: y6 :: r).set m u0).set (m + 1) u1).set (m + 2) u2).set (m + 3) u3).set (m + 4) u4).set (m + 5) u5).set (m + 6) u6 = A ++ [u0, u1, u2, u3, u4, u5, u6] ++ r := by
  subst hm
  have hs : ∀ (j : Nat) (x : List Value) (u : Value), (A ++ x).set (A.length + j) u = A ++ x.set j u := fun j x u => by rw [List.set_append_right _ _ (by omega)]; simp
  have h0 := hs 0
  simp only [Nat.add_zero] at h0
  rw [h0, hs, hs, hs, hs, hs, hs]
  simp
theorem seven_of {l : List Value} {n : Nat} (h : l.length = n + 7) : ∃ y0 y1 y2 y3 y4 y5 y6 r, l = y0 :: y1 :: y2 :: y3 :: y4 :: y5 :: y6 :: r ∧ r.length = n := by
  match l, h with
  | y0 :: y1 :: y2 :: y3 :: y4 :: y5 :: y6 :: r, h => exact ⟨y0, y1, y2, y3, y4, y5, y6, r, rfl, by simpa using h⟩

/-- A slice of rules lies in the world, at any address. -/
def ArgRl (w : World) (v : Value) (l : List Rl) : Prop := ∃ a cap, v = .slice a l.length cap ∧ (l.length ≤ cap ∧ (a = none → cap = 0)) ∧ (0 < l.length → ∃ x : Addr, a = some x ∧ x.block < w.heap.size ∧ ∀ i (hi : i < l.length) j u, (rlC l[i])[j]? = some u → w.cell? (x.add (i * 7 + j)) = some u)
theorem add_blk (a : Addr) (i : Nat) : (a.add i).block = a.block := by unfold Addr.add; split <;> rfl
theorem add_lit (x : Addr) (i k : Nat) (hk : k ≠ 0) : x.add (i + k) = ⟨(x.add i).block, (x.add i).off + k, none⟩ := by
  unfold Addr.add
  split <;> split <;> simp_all <;> omega
theorem ArgRl.below {w w' : World} {v : Value} {l : List Rl} (h : ArgRl w v l) (hb : Below w.heap.size w w') : ArgRl w' v l := by
  obtain ⟨a, cap, rfl, hc, hr⟩ := h
  refine ⟨a, cap, rfl, hc, fun h => ?_⟩
  obtain ⟨x, rfl, hx, hrow⟩ := hr h
  exact ⟨x, rfl, Nat.lt_of_lt_of_le hx hb.size, fun i hi j u hu => by
    rw [hb.cell (p := x.add (i * 7 + j)) (by rw [add_blk]; exact hx)]; exact hrow i hi j u hu⟩
/-- Rules in a list of the call's own. -/
def OwnRl (w : World) (B : Nat) (v : Value) (l : List Rl) : Prop := w.ownsRow B 35 7 v l.length (flatC rlC l)
/-- A slice reads as these rules. -/
def RdRl (w : World) (v : Value) (l : List Rl) : Prop := ∃ a cap, v = .slice a l.length cap ∧ l.length ≤ cap ∧ (0 < l.length → ∃ g off, a = some ⟨g, off, none⟩ ∧ g < w.heap.size ∧ ∀ i (hi : i < l.length) j u, (rlC l[i])[j]? = some u → w.cell? ⟨g, off + (i * 7 + j), none⟩ = some u)
theorem RdRl.below {w w' : World} {v : Value} {l : List Rl} (h : RdRl w v l) (hb : Below w.heap.size w w') : RdRl w' v l := by
  obtain ⟨a, cap, rfl, hc, hr⟩ := h
  refine ⟨a, cap, rfl, hc, fun h => ?_⟩
  obtain ⟨g, off, rfl, hx, hrow⟩ := hr h
  exact ⟨g, off, rfl, Nat.lt_of_lt_of_le hx hb.size, fun i hi j u hu => by
    rw [hb.cell (p := ⟨g, off + (i * 7 + j), none⟩) hx]; exact hrow i hi j u hu⟩
theorem OwnRl.rd {w : World} {B : Nat} {v : Value} {l : List Rl} (h : OwnRl w B v l) : RdRl w v l := by
  obtain ⟨a, cap, rfl, hc, hr⟩ := RdC.of_own rlC_len (by decide) h
  refine ⟨a, cap, rfl, hc, fun hn => ?_⟩
  obtain ⟨g, rfl, hrow⟩ := hr hn
  refine ⟨g, 0, rfl, hrow.lt (by rw [flatC_len rlC_len]; omega), fun i hi j u hu => ?_⟩
  have hj : j < 7 := by
    have := (List.getElem?_eq_some_iff.1 hu).1
    rwa [rlC_len] at this
  rw [Nat.zero_add]
  exact (hrow.elem rlC_len i hi j hj u hu).1

/-- The seven cells of a rule that is read. -/
theorem rl_seven {w : World} {g off : Nat} {l : List Rl} (h : ∀ i (hi : i < l.length) j u, (rlC l[i])[j]? = some u → w.cell? ⟨g, off + (i * 7 + j), none⟩ = some u) (i : Nat) (hi : i < l.length) (al : Bool) (a b c d e f : Int) (hr : (⟨al, a, b, c, d, e, f⟩ : Rl) = l[i]) :
    w.cell? ⟨g, off + i * 7, none⟩ = some (.bool al) ∧ w.cell? ⟨g, off + i * 7 + 1, none⟩ = some (.int .i64 a) ∧ w.cell? ⟨g, off + i * 7 + 2, none⟩ = some (.int .i64 b) ∧ w.cell? ⟨g, off + i * 7 + 3, none⟩ = some (.int .i64 c) ∧ w.cell? ⟨g, off + i * 7 + 4, none⟩ = some (.int .i64 d) ∧ w.cell? ⟨g, off + i * 7 + 5, none⟩ = some (.int .i64 e) ∧ w.cell? ⟨g, off + i * 7 + 6, none⟩ = some (.int .i64 f) := by
  have hh := h i hi
  rw [← hr] at hh
  exact ⟨hh 0 _ rfl, hh 1 _ rfl, hh 2 _ rfl, hh 3 _ rfl, hh 4 _ rfl, hh 5 _ rfl, hh 6 _ rfl⟩

set_option maxRecDepth 100000 in
set_option maxHeartbeats 800000 in
theorem toRul_any (al : Bool) (i it o ot p pt : Int) (w : World) :
    Calls Tryz.prog 77 #[.agg #[.bool al, .int .i64 i, .int .i64 it, .int .i64 o, .int .i64 ot, .int .i64 p, .int .i64 pt]] w fun e w' => e = .returned (.agg #[.bool al, .int .i64 i, .int .i64 it, .int .i64 o, .int .i64 ot, .int .i64 p, .int .i64 pt]) ∧ Below w.heap.size w w' := by
  go_enter Tryz.func77, Tryz.ntmps77
  go_wp2
  refine bodyPost_ret (v := .agg #[.bool al, .int .i64 i, .int .i64 it, .int .i64 o, .int .i64 ot, .int .i64 p, .int .i64 pt]) (by simp [results, Tryz.results77, go_sem]) rfl ⟨rfl, ?_⟩
  exact ((((Below.refl _ _).alloc (Nat.le_refl _) _).alloc (by simp) _).alloc (by simp; omega) _)

set_option maxRecDepth 100000 in
set_option maxHeartbeats 800000 in
theorem eqRul_same (al : Bool) (i it o ot p pt : Int) (w : World) :
    Calls Tryz.prog 82 #[.agg #[.bool al, .int .i64 i, .int .i64 it, .int .i64 o, .int .i64 ot, .int .i64 p, .int .i64 pt], .agg #[.bool al, .int .i64 i, .int .i64 it, .int .i64 o, .int .i64 ot, .int .i64 p, .int .i64 pt]] w fun e w' => e = .returned (.bool true) ∧ Below w.heap.size w w' := by
  go_enter Tryz.func82, Tryz.ntmps82
  go_wp2
  go_ret
  exact ⟨rfl, ((Below.refl _ _).alloc (Nat.le_refl _) _).alloc (by simp) _⟩

theorem szRuls_any (ad : Option Addr) (n cap : Nat) (left : Int) (w : World) (hn : n ≤ 9223372036854775807) (h0 : 0 ≤ left) (h1 : left ≤ 4194304) :
    Calls Tryz.prog 24 #[.slice ad n cap, .int .i64 left] w fun e w' => e = .returned (.int .i64 (if left < (n : Int) then -1 else left - n)) ∧ w = w' := by
  by_cases h : left < (n : Int)
  all_goals
    go_enter Tryz.func24, Tryz.ntmps24
    go_wp2
    go_ret
    exact ⟨ret_int (by first | rfl | (rw [if_pos h]; rfl) | (rw [if_neg (by omega)]) | (rw [if_neg (by omega)]; rfl)), rfl⟩

set_option maxRecDepth 100000 in
set_option maxHeartbeats 1600000 in
theorem toRulsArg (v : Value) (l : List Rl) (w : World) (hn : l.length ≤ 4194304) (ht : ArgRl w v l) :
    Calls Tryz.prog 27 #[v] w fun e w' => ∃ g, e = .returned (.slice (some ⟨g, 0, none⟩) l.length l.length) ∧ OwnRl w' w.heap.size (.slice (some ⟨g, 0, none⟩) l.length l.length) l ∧ Below w.heap.size w w' := by
  obtain ⟨ad, cap, rfl, hcap, hr⟩ := ht
  obtain ⟨i0, hi, hz0, hz1, hz2⟩ := info_parts infoRl
  have HR := Lib.hid hr
  clear hr
  go_enter Tryz.func27, Tryz.ntmps27
  go_wp2_with (at_make; refine wpList_make_full _ rfl (.tmp 6) (.tmp 6) 23 rfl w.heap.size 35 i0 (.agg #[.bool false, .int .i64 0, .int .i64 0, .int .i64 0, .int .i64 0, .int .i64 0, .int .i64 0]) 7 (by rfl) hi hz0 hz1 .i64 .i64 (l.length : Int) (l.length : Int) l.length (by rfl) (by rfl) rfl rfl (by rw [hz2]; omega) (by unfold maxLen; omega) (Nat.le_refl _) ?_; intro w1 hown hgrow)
  obtain ⟨L0, hL0, hL1, hL2⟩ := own_blk hown
  have R1 : Hid (∃ r, Blk w1 w.heap.size 35 (flatC rlC (l.take 0) ++ r) ∧ r.length = (l.length - 0) * 7) := ⟨L0, by simpa [flatC] using hL0, by simpa using hL1⟩
  have B1 : Hid (Below w.heap.size w w1) := (Below.refl _ _).grown hgrow (Nat.le_refl _) (fun k hk => by cases hk)
  clear hown hgrow hL0 hL1 hL2
  go_loopw [4] (fun i wr => ∃ k : Nat, k ≤ l.length ∧ i = .int .i64 k ∧ Hid (∃ r, Blk wr w.heap.size 35 (flatC rlC (l.take k) ++ r) ∧ r.length = (l.length - k) * 7) ∧ Below w.heap.size w wr) (fun i _ => l.length - (intOf i).toNat)
  case atStart => exact ⟨0, Nat.zero_le _, rfl, R1, B1.out⟩
  case round =>
    obtain ⟨k, hk, rfl, HE, hb⟩ := hrel
    by_cases hlt : k < l.length
    · obtain ⟨x, rfl, hx, hrow⟩ := HR.out (by omega)
      obtain ⟨⟨al, a, b, c, d, e, f⟩, hap⟩ : ∃ x, x = l[k] := ⟨_, rfl⟩
      have hh := hrow k hlt
      rw [← hap] at hh
      have hc : ∀ j u, (rlC ⟨al, a, b, c, d, e, f⟩)[j]? = some u → wr.cell? (x.add (k * 7 + j)) = some u := fun j u hu => (hb.cell (p := x.add (k * 7 + j)) (by rw [add_blk]; exact hx)).trans (hh j u hu)
      have c0 : wr.cell? (x.add (k * 7)) = some (.bool al) := hc 0 _ rfl
      have c1 : wr.cell? ⟨(x.add (k * 7)).block, (x.add (k * 7)).off + 1, none⟩ = some (.int .i64 a) := by rw [← add_lit _ _ _ (by decide)]; exact hc 1 _ rfl
      have c2 : wr.cell? ⟨(x.add (k * 7)).block, (x.add (k * 7)).off + 2, none⟩ = some (.int .i64 b) := by rw [← add_lit _ _ _ (by decide)]; exact hc 2 _ rfl
      have c3 : wr.cell? ⟨(x.add (k * 7)).block, (x.add (k * 7)).off + 3, none⟩ = some (.int .i64 c) := by rw [← add_lit _ _ _ (by decide)]; exact hc 3 _ rfl
      have c4 : wr.cell? ⟨(x.add (k * 7)).block, (x.add (k * 7)).off + 4, none⟩ = some (.int .i64 d) := by rw [← add_lit _ _ _ (by decide)]; exact hc 4 _ rfl
      have c5 : wr.cell? ⟨(x.add (k * 7)).block, (x.add (k * 7)).off + 5, none⟩ = some (.int .i64 e) := by rw [← add_lit _ _ _ (by decide)]; exact hc 5 _ rfl
      have c6 : wr.cell? ⟨(x.add (k * 7)).block, (x.add (k * 7)).off + 6, none⟩ = some (.int .i64 f) := by rw [← add_lit _ _ _ (by decide)]; exact hc 6 _ rfl
      have HA := Lib.hid hap
      have hk2 : (k : Int) ≤ (cap : Int) := by have := hcap.1; omega
      have hk3 : (k : Int) < (l.length : Int) := by omega
      obtain ⟨r, hr1, hr2⟩ := HE.out
      obtain ⟨y0, y1, y2, y3, y4, y5, y6, r', rfl, hr3⟩ := seven_of (l := r) (n := (l.length - (k + 1)) * 7) (by rw [hr2]; omega)
      have hml : (flatC rlC (l.take k)).length = k * 7 := by rw [flatC_len rlC_len, List.length_take, Nat.min_eq_left hk]
      have HB := Lib.hid hr1
      have HL := Lib.hid hml
      have hgl := hr1.lt
      clear hrow hap hh hc hr1 hr2 HE hml
      have HC : Hid (∀ w2, Below wr.heap.size wr w2 → ∀ (j : Nat) u, (y0 :: y1 :: y2 :: y3 :: y4 :: y5 :: y6 :: r')[j]? = some u → w2.cell? ⟨w.heap.size, k * 7 + j, none⟩ = some u ∧ w2.frozen? ⟨w.heap.size, k * 7 + j, none⟩ = false) := fun w2 b2 j u hu =>
        (HB.out.below b2).cell (k * 7 + j) u (by rw [List.getElem?_append_right (by rw [HL.out]; omega), HL.out, show k * 7 + j - k * 7 = j by omega]; exact hu)
      go_wp2_with (go_at_call 77; refine (toRul_any al a b c d e f _).mono ?_; rintro e' w2 ⟨rfl, b2⟩; have q0 := (HC.out w2 b2 0 y0 rfl).1; have q1 := (HC.out w2 b2 1 y1 rfl).1; have q2 := (HC.out w2 b2 2 y2 rfl).1; have q3 := (HC.out w2 b2 3 y3 rfl).1; have q4 := (HC.out w2 b2 4 y4 rfl).1; have q5 := (HC.out w2 b2 5 y5 rfl).1; have q6 := (HC.out w2 b2 6 y6 rfl).1; have f0 := (HC.out w2 b2 0 y0 rfl).2; have f1 := (HC.out w2 b2 1 y1 rfl).2; have f2 := (HC.out w2 b2 2 y2 rfl).2; have f3 := (HC.out w2 b2 3 y3 rfl).2; have f4 := (HC.out w2 b2 4 y4 rfl).2; have f5 := (HC.out w2 b2 5 y5 rfl).2; have f6 := (HC.out w2 b2 6 y6 rfl).2; simp only [Nat.add_zero] at q0 f0)
      go_roundw
      case rel =>
        refine ⟨k + 1, by omega, by go_num, ⟨r', ?_, hr3⟩, ?_⟩
        · have hs := ((((((((HB.out.below b2).set (k * 7) (.bool al)).set (k * 7 + 1) (.int .i64 a)).set (k * 7 + 2) (.int .i64 b)).set (k * 7 + 3) (.int .i64 c)).set (k * 7 + 4) (.int .i64 d)).set (k * 7 + 5) (.int .i64 e)).set (k * 7 + 6) (.int .i64 f))
          rw [set7 _ _ _ _ _ _ _ _ _ _ _ _ _ _ _ _ _ HL.out] at hs
          have he : flatC rlC (l.take (k + 1)) = flatC rlC (l.take k) ++ [.bool al, .int .i64 a, .int .i64 b, .int .i64 c, .int .i64 d, .int .i64 e, .int .i64 f] := by
            rw [List.take_succ_eq_append_getElem hlt, flatC_app, ← HA.out]
            simp [flatC, rlC]
          rw [he]
          exact hs
        · exact (((((((hb.trans (b2.mono (by omega))).setCell (by simp) _).setCell (by simp) _).setCell (by simp) _).setCell (by simp) _).setCell (by simp) _).setCell (by simp) _).setCell (by simp) _
      case measure => simp [intOf]; omega
    · have hkn : k = l.length := by omega
      subst hkn
      have HO : Hid (OwnRl wr w.heap.size (.slice (some ⟨w.heap.size, 0, none⟩) l.length l.length) l) := by
        obtain ⟨r, hr1, hr2⟩ := HE.out
        have hr0 : r = [] := List.eq_nil_of_length_eq_zero (by rw [hr2]; simp)
        subst hr0
        rw [List.append_nil, List.take_of_length_le (Nat.le_refl _)] at hr1
        exact hr1.own (Nat.le_refl _) (flatC_len rlC_len l) (by unfold maxLen; omega)
      clear HE
      go_wp2
      go_ret
      exact ⟨_, rfl, HO.out, hb⟩

set_option maxRecDepth 100000 in
set_option maxHeartbeats 1600000 in
theorem eqRuls_same (v u : Value) (l : List Rl) (w : World) (hn : l.length ≤ 4194304) (hv : RdRl w v l) (hu : RdRl w u l) :
    Calls Tryz.prog 32 #[v, u] w fun e w' => e = .returned (.bool true) ∧ Below w.heap.size w w' := by
  obtain ⟨av, cv, rfl, hcv, hrv⟩ := hv
  obtain ⟨au, cu, rfl, hcu, hru⟩ := hu
  have HV := Lib.hid hrv
  have HU := Lib.hid hru
  clear hrv hru
  go_enter Tryz.func32, Tryz.ntmps32
  go_wp2
  go_loopw [5] (fun i wr => ∃ k : Nat, k ≤ l.length ∧ i = .int .i64 k ∧ Below w.heap.size w wr) (fun i _ => l.length - (intOf i).toNat)
  case atStart => exact ⟨0, Nat.zero_le _, rfl, Below.refl _ _⟩
  case round =>
    obtain ⟨k, hk, rfl, hb⟩ := hrel
    by_cases hlt : k < l.length
    · obtain ⟨g1, o1, rfl, hg1, hr1⟩ := HV.out (by omega)
      obtain ⟨g2, o2, rfl, hg2, hr2⟩ := HU.out (by omega)
      obtain ⟨⟨al, a, b, c, d, e, f⟩, hap⟩ : ∃ x, x = l[k] := ⟨_, rfl⟩
      obtain ⟨p0, p1, p2, p3, p4, p5, p6⟩ := rl_seven hr1 k hlt al a b c d e f hap
      obtain ⟨s0, s1, s2, s3, s4, s5, s6⟩ := rl_seven hr2 k hlt al a b c d e f hap
      rw [← hb.cell (by exact hg1)] at p0 p1 p2 p3 p4 p5 p6
      rw [← hb.cell (by exact hg2)] at s0 s1 s2 s3 s4 s5 s6
      have hk1 : (k : Int) ≤ (cv : Int) := by omega
      have hk2 : (k : Int) ≤ (cu : Int) := by omega
      have hk3 : (k : Int) < (l.length : Int) := by omega
      have HC : Hid (∀ w, Calls Tryz.prog 82 #[.agg #[.bool al, .int .i64 a, .int .i64 b, .int .i64 c, .int .i64 d, .int .i64 e, .int .i64 f], .agg #[.bool al, .int .i64 a, .int .i64 b, .int .i64 c, .int .i64 d, .int .i64 e, .int .i64 f]] w fun e w' => e = .returned (.bool true) ∧ Below w.heap.size w w') := fun w => eqRul_same al a b c d e f w
      have HB := Lib.hid hb
      have hsz := hb.size
      clear hr1 hr2 hap HV HU hb
      go_wp2_with fail
      go_region_with (go_at_call 82; refine (HC.out _).mono ?_; rintro e w1 ⟨rfl, b1⟩; have BB : Hid (Below w.heap.size w w1) := (by first | exact HB.out.trans ((((Below.refl _ _).drew).trans b1).mono hsz) | exact HB.out.trans (b1.mono hsz)); clear b1)
      all_goals
        go_wp2
        go_roundw
        case rel => exact ⟨k + 1, by omega, by go_num, BB.out⟩
        case measure => simp [intOf]; omega
    · have hkn : k = l.length := by omega
      subst hkn
      go_wp2
      go_ret
      exact ⟨rfl, hb⟩

end Go.Proofs.YtglpijjkihpeeaaGreatDoor
