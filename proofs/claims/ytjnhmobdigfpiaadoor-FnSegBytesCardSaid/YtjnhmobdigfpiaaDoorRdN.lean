/- The numbers, the ends and the text that a segment's reader gives. Conditions: the bytes are at most 2^22; the variables that are read hold errors. -/
import Derived.Test.YtjnhmobdigfpiaaDoorRdR
namespace Go.Proofs.YtjnhmobdigfpiaaDoor
open Go.RowKit

/-- The number that bytes are, the higher first. -/
def beV (l : List UInt8) : Nat := l.foldl (fun n c => n * 256 + c.toNat) 0
theorem beV_snoc (l : List UInt8) (c : UInt8) : beV (l ++ [c]) = beV l * 256 + c.toNat := by simp [beV]
theorem beV_lt (l : List UInt8) : beV l < 256 ^ l.length := by
  have key : ∀ (l : List UInt8) (n : Nat), l.foldl (fun n c => n * 256 + c.toNat) n < (n + 1) * 256 ^ l.length := by
    intro l
    induction l with
    | nil => intro n; simp
    | cons c r ih =>
      intro n
      have h1 := ih (n * 256 + c.toNat)
      have h2 := c.toNat_lt
      rw [List.foldl_cons, List.length_cons, Nat.pow_succ]
      refine Nat.lt_of_lt_of_le h1 ?_
      rw [Nat.mul_comm (256 ^ r.length) 256, ← Nat.mul_assoc]
      exact Nat.mul_le_mul_right _ (by omega)
  have := key l 0
  simpa [beV] using this
/-- What the reader gives as a number of so many bytes. -/
def numS (l : List UInt8) (m : Nat) (s : Nat × Bool) : Nat := if s.2 = false ∧ s.1 + m ≤ l.length then beV ((l.drop s.1).take m) else 0
theorem or_nat (n c : Nat) (hc : c < 256) : (n * 256) ||| c = n * 256 + c := by
  have h := Nat.shiftLeft_add_eq_or_of_lt (b := c) (i := 8) (by simpa using hc) n
  rw [Nat.shiftLeft_eq] at h
  simpa using h.symm
theorem or_i64 (n c : Nat) (hn : n < 65536) (hc : c < 256) : bits .or .i64 ((n : Int) * 256) (c : Int) = ((n * 256 + c : Nat) : Int) := by
  have h0 : ((n : Int) * 256) = ((n * 256 : Nat) : Int) := by omega
  have h1 : (BitVec.ofInt 64 ((n * 256 : Nat) : Int)).toNat = n * 256 := by
    rw [BitVec.ofInt_natCast, BitVec.toNat_ofNat]; exact Nat.mod_eq_of_lt (by omega)
  have h2 : (BitVec.ofInt 64 (c : Int)).toNat = c := by
    rw [BitVec.ofInt_natCast, BitVec.toNat_ofNat]; exact Nat.mod_eq_of_lt (by omega)
  rw [h0]
  show IntKind.i64.wrap ((BitVec.ofInt 64 ((n * 256 : Nat) : Int) ||| BitVec.ofInt 64 (c : Int)).toNat : Int) = _
  rw [BitVec.toNat_or, h1, h2, or_nat n c hc]
  exact IntWalk.i64_in _ (by omega)

set_option maxRecDepth 100000 in
set_option maxHeartbeats 1600000 in
theorem number_any (w0 : World) (R g cap m : Nat) (l : List UInt8) (s : Nat × Bool) (w : World) (hn : l.length ≤ 4194304) (hc : l.length ≤ cap) (hm : m ≤ 2) (hv : VarsE w0) (hg : g < w0.heap.size) (hr : RowAt w0 g (byV l)) (h : RdR w0 R g l.length cap w s) :
    Calls Tryd.prog 60 #[.pointer (some ⟨R, 0, none⟩), .int .i64 m] w fun e w' => e = .returned (.int .i64 (numS l m s)) ∧ RdR w0 R g l.length cap w' (takeS l.length m s) ∧ w.grownBy w' (some R) := by
  have HT := Lib.hid (take_any w0 R g l.length cap m s w hn hc (by omega) hv h)
  by_cases hs : s.2 = false ∧ s.1 + m ≤ l.length
  · have HN : Hid (numS l m s = beV ((l.drop s.1).take m)) := if_pos hs
    obtain ⟨bs, hbs⟩ : ∃ bs, bs = (l.drop s.1).take m := ⟨_, rfl⟩
    have hbl : bs.length = m := by rw [hbs, List.length_take, List.length_drop]; omega
    have HC : Hid (∀ k (hk : k < bs.length), w0.cell? ⟨g, s.1 + k, none⟩ = some (.int .u8 ((bs[k]).toNat : Int))) := fun k hk => by
      have := (hr (s.1 + k) (by rw [byV_len]; omega)).1
      rw [byV_at] at this
      simp only [hbs, List.getElem_take, List.getElem_drop]
      exact this
    rw [← hbs] at HN
    clear hbs hr h hv
    obtain ⟨q, hq⟩ : ∃ q, q = s.1 := ⟨_, rfl⟩
    have HTK : Hid (∀ v, TookV g l.length cap m s v → ∃ x : Addr, v = .slice (some x) m (cap - q) ∧ (0 < m → x = ⟨g, q, none⟩)) := fun v hv => by
      rcases hv with ⟨_, _, x, h1, h2⟩ | ⟨h1, _⟩
      · rw [hq]; exact ⟨x, h1, h2⟩
      · exact absurd hs h1
    have hqn : q + m ≤ l.length := by rw [hq]; exact hs.2
    rw [← hq] at HC
    clear hs hq
    go_enter Tryd.func60, Tryd.ntmps60
    go_wp2_with (go_at_call 72; refine HT.out.mono ?_; rintro e w1 ⟨v, rfl, tk, rd, gr⟩; obtain ⟨x, rfl, hx⟩ := HTK.out _ tk)
    have B1 := rd.1
    have HX := Lib.hid hx
    have RD := Lib.hid rd
    have GR := Lib.hid gr
    clear rd gr tk hx
    go_loop [5, 12] (fun n i => ∃ k : Nat, k ≤ bs.length ∧ i = .int .i64 k ∧ n = .int .i64 (beV (bs.take k))) (fun _ i => bs.length - (intOf i).toNat)
    case atStart => exact ⟨0, Nat.zero_le _, rfl, rfl⟩
    case round =>
      obtain ⟨k, hk, rfl, rfl⟩ := hrel
      by_cases hlt : k < bs.length
      · have hkm : k < m := by omega
        obtain rfl := HX.out (by omega)
        have hcell : w1.cell? ⟨g, q + k, none⟩ = some (.int .u8 ((bs[k]).toNat : Int)) := by rw [B1.cell (p := ⟨g, q + k, none⟩) hg]; exact HC.out k hlt
        have hb1 := beV_lt (bs.take k)
        have hbt : (bs.take k).length ≤ 1 := by rw [List.length_take]; omega
        obtain ⟨n, hne⟩ : ∃ n, n = beV (bs.take k) := ⟨_, rfl⟩
        obtain ⟨c, hce⟩ : ∃ c, c = bs[k] := ⟨_, rfl⟩
        have HN2 : Hid (beV (bs.take (k + 1)) = n * 256 + c.toNat) := by
          show _ = _
          rw [List.take_succ_eq_append_getElem hlt, beV_snoc, hne, hce]
        have hn2 : n < 65536 := by
          rw [hne]
          have : 256 ^ (bs.take k).length ≤ 256 ^ 1 := Nat.pow_le_pow_right (by decide) hbt
          omega
        rw [← hce] at hcell
        rw [← hne]
        have hc2 := c.toNat_lt
        have HO := Lib.hid (or_i64 n c.toNat hn2 (by omega))
        have hk2 : (k : Int) < (m : Int) := by omega
        have hk3 : (q : Int) + (k : Int) ≤ (cap : Int) := by omega
        clear hb1 hbt hne hce
        go_wp2_with fail
        go_round
        case rel => exact ⟨k + 1, by omega, by go_num, by rw [HO.out, HN2.out]⟩
        case measure => simp [intOf]; omega
      · have hke : k = bs.length := by omega
        have HE : Hid (bs.take k = bs) := List.take_of_length_le (by omega)
        have hkm : ¬ (k : Int) < (m : Int) := by omega
        clear hke
        go_wp2
        go_ret
        exact ⟨ret_int (by rw [HE.out, HN.out]), RD.out, GR.out⟩
  · have HN : Hid (numS l m s = 0) := if_neg hs
    have HTK : Hid (∀ v, TookV g l.length cap m s v → v = .slice none 0 0) := fun v hv => by
      rcases hv with ⟨h1, h2, _⟩ | ⟨_, h1⟩
      · exact absurd ⟨h1, h2⟩ hs
      · exact h1
    clear hs hr h hv
    go_enter Tryd.func60, Tryd.ntmps60
    go_wp2_with (go_at_call 72; refine HT.out.mono ?_; rintro e w1 ⟨v, rfl, tk, rd, gr⟩; obtain rfl := HTK.out _ tk)
    have RD := Lib.hid rd
    have GR := Lib.hid gr
    clear rd gr tk
    go_loop [5, 12] (fun n i => n = .int .i64 0 ∧ i = .int .i64 0) (fun _ _ => 0)
    case atStart => exact ⟨rfl, rfl⟩
    case round =>
      obtain ⟨rfl, rfl⟩ := hrel
      go_wp2
      go_ret
      exact ⟨ret_int (by rw [HN.out]; rfl), RD.out, GR.out⟩

/-- The text that the reader gives: a byte that says how many there are, and these. -/
def txtS (l : List UInt8) (s : Nat × Bool) : List UInt8 := if (takeS l.length 1 s).2 = false ∧ (takeS l.length 1 s).1 + numS l 1 s ≤ l.length then (l.drop (takeS l.length 1 s).1).take (numS l 1 s) else []
theorem numS_lt (l : List UInt8) (m : Nat) (s : Nat × Bool) (hm : m ≤ 2) : numS l m s < 65536 := by
  unfold numS
  by_cases h : s.2 = false ∧ s.1 + m ≤ l.length
  · rw [if_pos h]
    have h1 := beV_lt ((l.drop s.1).take m)
    have h2 : ((l.drop s.1).take m).length ≤ 2 := by rw [List.length_take]; omega
    have : 256 ^ ((l.drop s.1).take m).length ≤ 256 ^ 2 := Nat.pow_le_pow_right (by decide) h2
    omega
  · rw [if_neg h]; omega

set_option maxRecDepth 100000 in
set_option maxHeartbeats 1600000 in
theorem end_rd (w0 : World) (R g cap : Nat) (l : List UInt8) (s : Nat × Bool) (w : World) (hn : l.length ≤ 4194304) (hc : l.length ≤ cap) (hv : VarsE w0) (hg : g < w0.heap.size) (hr : RowAt w0 g (byV l)) (h : RdR w0 R g l.length cap w s) :
    Calls Tryd.prog 59 #[.pointer (some ⟨R, 0, none⟩)] w fun e w' => e = .returned (.agg #[.int .i64 (numS l 2 s), .int .i64 (numS l 2 (takeS l.length 2 s))]) ∧ RdR w0 R g l.length cap w' (takeS l.length 2 (takeS l.length 2 s)) ∧ w.grownBy w' (some R) := by
  have HN : Hid (∀ s w, RdR w0 R g l.length cap w s → Calls Tryd.prog 60 #[.pointer (some ⟨R, 0, none⟩), .int .i64 2] w fun e w' => e = .returned (.int .i64 (numS l 2 s)) ∧ RdR w0 R g l.length cap w' (takeS l.length 2 s) ∧ w.grownBy w' (some R)) := fun s w h => number_any w0 R g cap 2 l s w hn hc (by decide) hv hg hr h
  have HR : Hid (∀ o, RdR w0 R g l.length cap (w.alloc o) s) := fun o => h.alloc o
  have hlt := h.lt
  obtain ⟨a, ha⟩ : ∃ a, a = numS l 2 s := ⟨_, rfl⟩
  obtain ⟨b, hb⟩ : ∃ b, b = numS l 2 (takeS l.length 2 s) := ⟨_, rfl⟩
  obtain ⟨s1, hs1⟩ : ∃ s1, s1 = takeS l.length 2 s := ⟨_, rfl⟩
  obtain ⟨s2, hs2⟩ : ∃ s2, s2 = takeS l.length 2 s1 := ⟨_, rfl⟩
  have H1 : Hid (∀ w, RdR w0 R g l.length cap w s → Calls Tryd.prog 60 #[.pointer (some ⟨R, 0, none⟩), .int .i64 2] w fun e w' => e = .returned (.int .i64 a) ∧ RdR w0 R g l.length cap w' s1 ∧ w.grownBy w' (some R)) := fun w h => by rw [ha, hs1]; exact HN.out s w h
  have H2 : Hid (∀ w, RdR w0 R g l.length cap w s1 → Calls Tryd.prog 60 #[.pointer (some ⟨R, 0, none⟩), .int .i64 2] w fun e w' => e = .returned (.int .i64 b) ∧ RdR w0 R g l.length cap w' s2 ∧ w.grownBy w' (some R)) := fun w h => by
    rw [hb, ← hs1, hs2]; exact HN.out s1 w h
  rw [← hb, ← ha, ← hs1, ← hs2]
  have hB0 := h.2.1
  clear hb ha hs1 hs2 HN hr h hv
  go_enter Tryd.func59, Tryd.ntmps59
  go_wp2_with fail
  (go_at_call 60; refine (H1.out _ (HR.out _)).mono ?_; rintro e w1 ⟨rfl, r1, g1⟩)
  have R1 := Lib.hid r1
  have z1 : w.heap.size < w1.heap.size := by have := g1.size; simp at this; omega
  have G1 := Lib.hid g1
  clear r1 g1
  go_wp2_with fail
  (go_at_call 60; refine (H2.out _ R1.out).mono ?_; rintro e w2 ⟨rfl, r2, g2⟩)
  have R2 := Lib.hid r2
  have e2 : w2.heap[w.heap.size]? = w1.heap[w.heap.size]? := g2.block w.heap.size z1 (fun e => by cases e; omega)
  have e1 : w1.heap[w.heap.size]? = (w.alloc (.cells #[.int .i64 0, .int .i64 0] 24)).heap[w.heap.size]? := G1.out.block w.heap.size (by simp) (fun e => by cases e; omega)
  have k0 : w2.cell? ⟨w.heap.size, 0, none⟩ = some (.int .i64 0) := (World.cell?_of_block (e2.trans e1)).trans (by simp)
  have k1 : w2.cell? ⟨w.heap.size, 1, none⟩ = some (.int .i64 0) := (World.cell?_of_block (e2.trans e1)).trans (by simp)
  have f0 : w2.frozen? ⟨w.heap.size, 0, none⟩ = false := (World.frozen?_of_block (e2.trans e1)).trans (by simp)
  have f1 : w2.frozen? ⟨w.heap.size, 1, none⟩ = false := (World.frozen?_of_block (e2.trans e1)).trans (by simp)
  have G2 := Lib.hid g2
  clear r2 g2 e1 e2
  go_wp2_with fail
  obtain ⟨q0, q1, q2⟩ := set_two (w := w2) (b := w.heap.size) (x := .int .i64 0) (y := .int .i64 0) (.int .i64 a) (.int .i64 b) k0 k1
  refine bodyPost_ret (v := .agg #[.int .i64 a, .int .i64 b]) (by simp [results, Tryd.results59, go_sem, q1, q2]) rfl ⟨rfl, (R2.out.put _ (by omega) (by omega)).put _ (by omega) (by omega), ?_⟩
  have g0 : w.grownBy w1 (some R) := (World.grownBy_alloc w _ (some R)).trans G1.out
  exact ((g0.trans G2.out).andThen (grownR_set _ w.heap.size 0 _) (fun j e => by cases e; exact .inl (Nat.le_refl _))).andThen (grownR_set _ w.heap.size 1 _) (fun j e => by cases e; exact .inl (Nat.le_refl _))

set_option maxRecDepth 100000 in
set_option maxHeartbeats 1600000 in
theorem text_rd (w0 : World) (R g cap : Nat) (l : List UInt8) (s : Nat × Bool) (w : World) (hn : l.length ≤ 4194304) (hc : l.length ≤ cap) (hv : VarsE w0) (hg : g < w0.heap.size) (hr : RowAt w0 g (byV l)) (h : RdR w0 R g l.length cap w s) :
    Calls Tryd.prog 61 #[.pointer (some ⟨R, 0, none⟩)] w fun e w' => e = .returned (.string ⟨(txtS l s).toArray⟩) ∧ RdR w0 R g l.length cap w' (takeS l.length (numS l 1 s) (takeS l.length 1 s)) ∧ w.grownBy w' (some R) := by
  have hlt := numS_lt l 1 s (by decide)
  have H1 := Lib.hid (number_any w0 R g cap 1 l s w hn hc (by decide) hv hg hr h)
  have H2 : Hid (∀ w, RdR w0 R g l.length cap w (takeS l.length 1 s) → Calls Tryd.prog 72 #[.pointer (some ⟨R, 0, none⟩), .int .i64 (numS l 1 s : Nat)] w fun e w' => ∃ v, e = .returned v ∧ TookV g l.length cap (numS l 1 s) (takeS l.length 1 s) v ∧ RdR w0 R g l.length cap w' (takeS l.length (numS l 1 s) (takeS l.length 1 s)) ∧ w.grownBy w' (some R)) := fun w h => take_any w0 R g l.length cap (numS l 1 s) (takeS l.length 1 s) w hn hc (by omega) hv h
  have HC : Hid (∀ v w, Below w0.heap.size w0 w → TookV g l.length cap (numS l 1 s) (takeS l.length 1 s) v → (convert 22 9 v).run Tryd.prog w = .ok (.string ⟨(txtS l s).toArray⟩) w ∧ ∃ a n c, v = .slice a n c) := by
    intro v w hb hv
    rcases hv with ⟨h1, h2, x, rfl, hx⟩ | ⟨h1, rfl⟩
    · have ht : txtS l s = (l.drop (takeS l.length 1 s).1).take (numS l 1 s) := if_pos ⟨h1, h2⟩
      have hl : (txtS l s).length = numS l 1 s := by rw [ht, List.length_take, List.length_drop]; omega
      refine ⟨?_, _, _, _, rfl⟩
      have := run_convert_bytes_back (P := Tryd.prog) w 22 9 5 x (cap - (takeS l.length 1 s).1) (txtS l s) Tryd.underlying22 Tryd.underlying5 Tryd.underlying9 (fun j hj => by
        rw [hx (by omega)]
        have hj2 : (takeS l.length 1 s).1 + j < (byV l).length := by rw [byV_len]; omega
        have hcell := (hr _ hj2).1
        rw [byV_at] at hcell
        have : (⟨g, (takeS l.length 1 s).1, none⟩ : Addr).add j = ⟨g, (takeS l.length 1 s).1 + j, none⟩ := by unfold Addr.add; split <;> simp_all
        rw [this, hb.cell (p := ⟨g, (takeS l.length 1 s).1 + j, none⟩) hg, hcell]
        simp only [ht, List.getElem_take, List.getElem_drop])
      rw [hl] at this
      exact this
    · have ht : txtS l s = [] := if_neg h1
      refine ⟨?_, _, _, _, rfl⟩
      rw [ht, run_convert_bytes_string w 22 9 5 none 0 0 Tryd.underlying22 Tryd.underlying5 Tryd.underlying9]
      rfl
  obtain ⟨m, hme⟩ : ∃ m, m = numS l 1 s := ⟨_, rfl⟩
  rw [← hme] at H1 H2 HC ⊢
  obtain ⟨s1, hs1⟩ : ∃ s1, s1 = takeS l.length 1 s := ⟨_, rfl⟩
  rw [← hs1] at H1 H2 HC ⊢
  obtain ⟨T, hT⟩ : ∃ T : ByteArray, T = ⟨(txtS l s).toArray⟩ := ⟨_, rfl⟩
  rw [← hT] at HC ⊢
  obtain ⟨s2, hs2⟩ : ∃ s2, s2 = takeS l.length m s1 := ⟨_, rfl⟩
  rw [← hs2] at H2 ⊢
  clear hme hs1 hT hs2 hr h hv hlt
  go_enter Tryd.func61, Tryd.ntmps61
  go_wp2_with fail
  (go_at_call 60; refine H1.out.mono ?_; rintro e w1 ⟨rfl, r1, g1⟩)
  go_wp2_with fail
  (go_at_call 72; refine (H2.out _ r1).mono ?_; rintro e w2 ⟨v, rfl, tk, r2, g2⟩)
  obtain ⟨hcv, a, n, c, rfl⟩ := HC.out _ w2 r2.1 tk
  have R2 := Lib.hid r2
  have G2 := Lib.hid (g1.trans g2)
  clear r1 r2 g1 g2 tk
  go_wp2_with fail
  go_ret
  exact ⟨rfl, R2.out, G2.out⟩

end Go.Proofs.YtjnhmobdigfpiaaDoor
