/- SegRead of the program, at all bytes that lie from a block's beginning on. Conditions: the bytes are at most 2^22; the variables that are read hold errors. -/
import Derived.Test.YtjnhmobdigfpiaaDoorRdN
import Derived.Test.YtjnhmobdigfpiaaDoorSegOk
import Derived.Test.YtjnhmobdigfpiaaDoorSegSum
import Derived.Test.YtjnhmobdigfpiaaDoorSegLaw
import Derived.Deep.RegionWith
import Derived.Deep.DeepCutAuto
namespace Go.Proofs.YtjnhmobdigfpiaaDoor
open Go.RowKit Go.Sort

/-- What the reader gives as a segment, its state behind that, and behind the tests. -/
def runS1 (l : List UInt8) : Nat × Bool := takeS l.length 2 (takeS l.length 2 (0, false))
def runS2 (l : List UInt8) : Nat × Bool := takeS l.length 2 (takeS l.length 2 (runS1 l))
def runS3 (l : List UInt8) : Nat × Bool := takeS l.length 2 (runS2 l)
def runS4 (l : List UInt8) : Nat × Bool := takeS l.length 2 (runS3 l)
def runS5 (l : List UInt8) : Nat × Bool := takeS l.length (numS l 1 (runS4 l)) (takeS l.length 1 (runS4 l))
def runG (l : List UInt8) : Sg := ⟨numS l 2 (0, false), numS l 2 (takeS l.length 2 (0, false)), numS l 2 (runS1 l), numS l 2 (takeS l.length 2 (runS1 l)), numS l 2 (runS2 l), numS l 2 (runS3 l), txtS l (runS4 l)⟩
def runS6 (l : List UInt8) : Nat × Bool := mustS (takeS l.length 2 (runS5 l)) (((numS l 2 (runS5 l) : Nat) : Int) == ((sumL (l.take (runS5 l).1) : Nat) : Int))
def runS7 (l : List UInt8) : Nat × Bool := mustS (runS6 l) (((runS6 l).1 : Int) == (l.length : Int))
def runS8 (l : List UInt8) : Nat × Bool := mustS (runS7 l) (segOkB (runG l))

theorem takeS_le {n m : Nat} {s : Nat × Bool} (h : s.1 ≤ n) : (takeS n m s).1 ≤ n := by
  unfold takeS
  by_cases h1 : s.2 = true
  · rw [if_pos h1]; exact h
  · rw [if_neg h1]
    by_cases h2 : s.1 + m ≤ n
    · rw [if_pos h2]; exact h2
    · rw [if_neg h2]; exact h

set_option maxRecDepth 100000 in
set_option maxHeartbeats 3200000 in
theorem readSeg_any (g cap : Nat) (l : List UInt8) (w : World) (hn : l.length ≤ 2097152) (hc : l.length ≤ cap) (hv : VarsE w) (hg : g < w.heap.size) (hr : RowAt w g (byV l)) :
    Calls Tryd.prog 37 #[.slice (some ⟨g, 0, none⟩) l.length cap] w fun e w' =>
      ((runS8 l).2 = false → e = .returned (.tuple #[.agg #[.int .i64 (runG l).sa, .int .i64 (runG l).sp, .int .i64 (runG l).da, .int .i64 (runG l).dp, .int .i64 (runG l).seq, .int .i64 (runG l).ack, .string ⟨(runG l).data.toArray⟩], .nilIface])) ∧
      ((runS8 l).2 = true → ∃ t p, e = .returned (.tuple #[.agg #[.int .i64 0, .int .i64 0, .int .i64 0, .int .i64 0, .int .i64 0, .int .i64 0, .string ⟨#[]⟩], .iface t p])) ∧ Below w.heap.size w w' := by
  obtain ⟨R, hR⟩ : ∃ R, R = w.heap.size + 1 := ⟨_, rfl⟩
  have HE : Hid (∀ s wx, RdR w R g l.length cap wx s → Calls Tryd.prog 59 #[.pointer (some ⟨R, 0, none⟩)] wx fun e w' => e = .returned (.agg #[.int .i64 (numS l 2 s), .int .i64 (numS l 2 (takeS l.length 2 s))]) ∧ RdR w R g l.length cap w' (takeS l.length 2 (takeS l.length 2 s)) ∧ wx.grownBy w' (some R)) := fun s wx h => end_rd w R g cap l s wx (by omega) hc hv hg hr h
  have HN : Hid (∀ s wx, RdR w R g l.length cap wx s → Calls Tryd.prog 60 #[.pointer (some ⟨R, 0, none⟩), .int .i64 2] wx fun e w' => e = .returned (.int .i64 (numS l 2 s)) ∧ RdR w R g l.length cap w' (takeS l.length 2 s) ∧ wx.grownBy w' (some R)) := fun s wx h => number_any w R g cap 2 l s wx (by omega) hc (by decide) hv hg hr h
  obtain ⟨a, ha⟩ : ∃ a, a = numS l 2 (0, false) := ⟨_, rfl⟩
  obtain ⟨b, hb⟩ : ∃ b, b = numS l 2 (takeS l.length 2 (0, false)) := ⟨_, rfl⟩
  obtain ⟨c, hcc⟩ : ∃ c, c = numS l 2 (runS1 l) := ⟨_, rfl⟩
  obtain ⟨d, hd⟩ : ∃ d, d = numS l 2 (takeS l.length 2 (runS1 l)) := ⟨_, rfl⟩
  obtain ⟨q, hq⟩ : ∃ q, q = numS l 2 (runS2 l) := ⟨_, rfl⟩
  obtain ⟨k, hk⟩ : ∃ k, k = numS l 2 (runS3 l) := ⟨_, rfl⟩
  obtain ⟨T, hT⟩ : ∃ T : ByteArray, T = ⟨(txtS l (runS4 l)).toArray⟩ := ⟨_, rfl⟩
  obtain ⟨n8, hn8⟩ : ∃ n8, n8 = numS l 2 (runS5 l) := ⟨_, rfl⟩
  have H1 : Hid (∀ wx, RdR w R g l.length cap wx (0, false) → Calls Tryd.prog 59 #[.pointer (some ⟨R, 0, none⟩)] wx fun e w' => e = .returned (.agg #[.int .i64 a, .int .i64 b]) ∧ RdR w R g l.length cap w' (runS1 l) ∧ wx.grownBy w' (some R)) := fun wx h => by rw [ha, hb]; exact HE.out _ wx h
  have H2 : Hid (∀ wx, RdR w R g l.length cap wx (runS1 l) → Calls Tryd.prog 59 #[.pointer (some ⟨R, 0, none⟩)] wx fun e w' => e = .returned (.agg #[.int .i64 c, .int .i64 d]) ∧ RdR w R g l.length cap w' (runS2 l) ∧ wx.grownBy w' (some R)) := fun wx h => by rw [hcc, hd]; exact HE.out _ wx h
  have H3 : Hid (∀ wx, RdR w R g l.length cap wx (runS2 l) → Calls Tryd.prog 60 #[.pointer (some ⟨R, 0, none⟩), .int .i64 2] wx fun e w' => e = .returned (.int .i64 q) ∧ RdR w R g l.length cap w' (runS3 l) ∧ wx.grownBy w' (some R)) := fun wx h => by rw [hq]; exact HN.out _ wx h
  have H4 : Hid (∀ wx, RdR w R g l.length cap wx (runS3 l) → Calls Tryd.prog 60 #[.pointer (some ⟨R, 0, none⟩), .int .i64 2] wx fun e w' => e = .returned (.int .i64 k) ∧ RdR w R g l.length cap w' (runS4 l) ∧ wx.grownBy w' (some R)) := fun wx h => by rw [hk]; exact HN.out _ wx h
  have H5 : Hid (∀ wx, RdR w R g l.length cap wx (runS4 l) → Calls Tryd.prog 61 #[.pointer (some ⟨R, 0, none⟩)] wx fun e w' => e = .returned (.string T) ∧ RdR w R g l.length cap w' (runS5 l) ∧ wx.grownBy w' (some R)) := fun wx h => by rw [hT]; exact text_rd w R g cap l _ wx (by omega) hc hv hg hr h
  have H8 : Hid (∀ wx, RdR w R g l.length cap wx (runS5 l) → Calls Tryd.prog 60 #[.pointer (some ⟨R, 0, none⟩), .int .i64 2] wx fun e w' => e = .returned (.int .i64 n8) ∧ RdR w R g l.length cap w' (takeS l.length 2 (runS5 l)) ∧ wx.grownBy w' (some R)) := fun wx h => by rw [hn8]; exact HN.out _ wx h
  have HM : Hid (∀ s b t p wx, RdR w R g l.length cap wx s → Calls Tryd.prog 62 #[.pointer (some ⟨R, 0, none⟩), .bool b, .iface t p] wx fun e w' => e = .returned (.tuple #[]) ∧ RdR w R g l.length cap w' (mustS s b) ∧ wx.grownBy w' (some R)) := fun s b t p wx h => must_any w R g l.length cap s b t p wx h
  have hp5 : (runS5 l).1 ≤ l.length := by
    have h0 : (0 : Nat) ≤ l.length := Nat.zero_le _
    exact takeS_le (takeS_le (takeS_le (takeS_le (takeS_le (takeS_le (takeS_le (takeS_le h0)))))))
  obtain ⟨sm, hsm⟩ : ∃ sm, sm = sumL (l.take (runS5 l).1) := ⟨_, rfl⟩
  have HS : Hid (∀ wx, Below w.heap.size w wx → Calls Tryd.prog 12 #[.slice (some ⟨g, 0, none⟩) (runS5 l).1 cap] wx fun e w' => e = .returned (.int .i64 sm) ∧ wx = w') := fun wx hb => by
    have hl : (l.take (runS5 l).1).length = (runS5 l).1 := by rw [List.length_take]; omega
    have := implSum_any (.slice (some ⟨g, 0, none⟩) (runS5 l).1 cap) (l.take (runS5 l).1) wx (by omega) ⟨some ⟨g, 0, none⟩, cap, by rw [hl], by omega, fun _ => ⟨g, rfl, fun i hi => by
      rw [byV_len] at hi
      have h1 := (hr.below hb hg) i (by rw [byV_len]; omega)
      rw [byV_at] at h1 ⊢
      simpa using h1⟩⟩
    rw [hsm]; exact this
  have hG : runG l = ⟨a, b, c, d, q, k, T.data.toList⟩ := by
    unfold runG
    rw [ha, hb, hcc, hd, hq, hk, hT]
  have HO : Hid (∀ wx, Calls Tryd.prog 10 #[.agg #[.int .i64 (a : Nat), .int .i64 (b : Nat), .int .i64 (c : Nat), .int .i64 (d : Nat), .int .i64 (q : Nat), .int .i64 (k : Nat), .string T]] wx fun e w' => e = .returned (.bool (segOkB (runG l))) ∧ Below wx.heap.size wx w') := fun wx => by
    rw [hG]
    exact implSegOk_any a b c d q k T wx (by
      have : T.size = (txtS l (runS4 l)).length := by rw [hT]; simp [ByteArray.size]
      have h2 : (txtS l (runS4 l)).length ≤ l.length := by
        unfold txtS
        split
        · rw [List.length_take, List.length_drop]; omega
        · simp
      omega)
  obtain ⟨ok, hok⟩ : ∃ ok, ok = segOkB (runG l) := ⟨_, rfl⟩
  rw [← hok] at HO
  have h6 : runS6 l = mustS (takeS l.length 2 (runS5 l)) ((n8 : Int) == (sm : Int)) := by unfold runS6; rw [hn8, hsm]
  have h7 : runS7 l = mustS (runS6 l) (((runS6 l).1 : Int) == (l.length : Int)) := rfl
  have h8 : runS8 l = mustS (runS7 l) ok := by unfold runS8; rw [hok]
  obtain ⟨s1, hs1⟩ : ∃ s, s = runS1 l := ⟨_, rfl⟩
  obtain ⟨s2, hs2⟩ : ∃ s, s = runS2 l := ⟨_, rfl⟩
  obtain ⟨s3, hs3⟩ : ∃ s, s = runS3 l := ⟨_, rfl⟩
  obtain ⟨s4, hs4⟩ : ∃ s, s = runS4 l := ⟨_, rfl⟩
  obtain ⟨s5, hs5⟩ : ∃ s, s = runS5 l := ⟨_, rfl⟩
  obtain ⟨s6, hs6⟩ : ∃ s, s = runS6 l := ⟨_, rfl⟩
  obtain ⟨s7, hs7⟩ : ∃ s, s = runS7 l := ⟨_, rfl⟩
  obtain ⟨s8, hs8⟩ : ∃ s, s = runS8 l := ⟨_, rfl⟩
  rw [← hs1] at H1 H2
  rw [← hs2] at H2 H3
  rw [← hs3] at H3 H4
  rw [← hs4] at H4 H5
  rw [← hs5] at H5 H8 HS hp5 h6
  rw [← hs6] at h6 h7
  rw [← hs7] at h7 h8
  rw [← hs8] at h8
  rw [← hs8, hG]
  obtain ⟨⟨tm, pm, vm⟩, ⟨tn, pn, vn⟩, ⟨tu, pu, vu⟩, ⟨tz, po, vo⟩⟩ : (∃ t p, w.cell? ⟨4, 0, none⟩ = some (.iface t p)) ∧ (∃ t p, w.cell? ⟨1, 0, none⟩ = some (.iface t p)) ∧ (∃ t p, w.cell? ⟨0, 0, none⟩ = some (.iface t p)) ∧ (∃ t p, w.cell? ⟨2, 0, none⟩ = some (.iface t p)) := ⟨hv.few, hv.many, hv.sum, hv.noSeg⟩
  have HV : Hid (∀ wx, Below w.heap.size w wx → wx.cell? ⟨1, 0, none⟩ = some (.iface tn pn) ∧ wx.cell? ⟨0, 0, none⟩ = some (.iface tu pu) ∧ wx.cell? ⟨2, 0, none⟩ = some (.iface tz po)) := fun wx hb => ⟨(hb.cell (World.block_lt_of_cell? _ _ vn)).trans vn, (hb.cell (World.block_lt_of_cell? _ _ vu)).trans vu, (hb.cell (World.block_lt_of_cell? _ _ vo)).trans vo⟩
  have T6 := Lib.hid h6
  have T7 := Lib.hid h7
  have T8 := Lib.hid h8
  have HTT : Hid ((⟨T.data.toList.toArray⟩ : ByteArray) = T) := by apply ByteArray.ext; apply Array.ext'; simp
  rw [HTT.out]
  clear ha hb hcc hd hq hk hT hn8 hsm hok hG h6 h7 h8 hs1 hs2 hs3 hs4 hs5 hs6 hs7 hs8 HE HN vm vn vu vo hr hv HTT
  have H0 : Hid (RdR w R g l.length cap ((w.alloc (.cells #[.int .i64 0, .int .i64 0, .int .i64 0, .int .i64 0, .int .i64 0, .int .i64 0, .string ⟨#[]⟩] 26)).alloc (.cells #[.slice (some ⟨g, 0, none⟩) l.length cap, .int .i64 0, .nilIface] 76)) (0, false)) := by
    have n0 := cell_new (w.alloc (.cells #[.int .i64 0, .int .i64 0, .int .i64 0, .int .i64 0, .int .i64 0, .int .i64 0, .string ⟨#[]⟩] 26)) #[.slice (some ⟨g, 0, none⟩) l.length cap, .int .i64 0, .nilIface] 76
    rw [show (w.alloc (.cells #[.int .i64 0, .int .i64 0, .int .i64 0, .int .i64 0, .int .i64 0, .int .i64 0, .string ⟨#[]⟩] 26)).heap.size = R by rw [hR]; simp] at n0
    exact ⟨((Below.refl _ _).alloc (Nat.le_refl _) _).alloc (by simp) _, by omega, Nat.zero_le _, (n0 0).1, (n0 1).1, (n0 1).2, (n0 2).2, .inl ⟨rfl, (n0 2).1⟩⟩
  have Z0 : Hid (((w.alloc (.cells #[.int .i64 0, .int .i64 0, .int .i64 0, .int .i64 0, .int .i64 0, .int .i64 0, .string ⟨#[]⟩] 26)).alloc (.cells #[.slice (some ⟨g, 0, none⟩) l.length cap, .int .i64 0, .nilIface] 76)).heap[w.heap.size]? = some (.cells #[.int .i64 0, .int .i64 0, .int .i64 0, .int .i64 0, .int .i64 0, .int .i64 0, .string ⟨#[]⟩] 26)) := by
    show _ = _
    rw [Below.heap_alloc _ _ _ (by simp)]
    exact heap_alloc_new w _
  go_enter Tryd.func37, Tryd.ntmps37
  go_wp2_with fail
  rw [← hR]
  have hne : w.heap.size ≠ R := by omega
  have HR := Lib.hid hR
  clear hR
  (go_at_call 59; refine (H1.out _ H0.out).mono ?_; rintro e w1 ⟨rfl, r1, g1⟩)
  have Z1 : Hid (w1.heap[w.heap.size]? = some (.cells #[.int .i64 0, .int .i64 0, .int .i64 0, .int .i64 0, .int .i64 0, .int .i64 0, .string ⟨#[]⟩] 26)) := (g1.block _ (by simp; omega) (fun e => by cases e; exact hne rfl)).trans Z0.out
  have R1 := Lib.hid r1
  clear r1 g1 H0 Z0
  go_wp2_with fail
  (go_at_call 59; refine (H2.out _ R1.out).mono ?_; rintro e w2 ⟨rfl, r2, g2⟩)
  have Z2 : Hid (w2.heap[w.heap.size]? = some (.cells #[.int .i64 0, .int .i64 0, .int .i64 0, .int .i64 0, .int .i64 0, .int .i64 0, .string ⟨#[]⟩] 26)) := (g2.block _ (Array.getElem?_eq_some_iff.1 Z1.out).1 (fun e => by cases e; exact hne rfl)).trans Z1.out
  have R2 := Lib.hid r2
  clear r2 g2 R1 Z1
  go_wp2_with fail
  (go_at_call 60; refine (H3.out _ R2.out).mono ?_; rintro e w3 ⟨rfl, r3, g3⟩)
  have Z3 : Hid (w3.heap[w.heap.size]? = some (.cells #[.int .i64 0, .int .i64 0, .int .i64 0, .int .i64 0, .int .i64 0, .int .i64 0, .string ⟨#[]⟩] 26)) := (g3.block _ (Array.getElem?_eq_some_iff.1 Z2.out).1 (fun e => by cases e; exact hne rfl)).trans Z2.out
  have R3 := Lib.hid r3
  clear r3 g3 R2 Z2
  go_wp2_with fail
  (go_at_call 60; refine (H4.out _ R3.out).mono ?_; rintro e w4 ⟨rfl, r4, g4⟩)
  have Z4 : Hid (w4.heap[w.heap.size]? = some (.cells #[.int .i64 0, .int .i64 0, .int .i64 0, .int .i64 0, .int .i64 0, .int .i64 0, .string ⟨#[]⟩] 26)) := (g4.block _ (Array.getElem?_eq_some_iff.1 Z3.out).1 (fun e => by cases e; exact hne rfl)).trans Z3.out
  have R4 := Lib.hid r4
  clear r4 g4 R3 Z3
  go_wp2_with fail
  (go_at_call 61; refine (H5.out _ R4.out).mono ?_; rintro e w5 ⟨rfl, r5, g5⟩)
  have Z5 : Hid (w5.heap[w.heap.size]? = some (.cells #[.int .i64 0, .int .i64 0, .int .i64 0, .int .i64 0, .int .i64 0, .int .i64 0, .string ⟨#[]⟩] 26)) := (g5.block _ (Array.getElem?_eq_some_iff.1 Z4.out).1 (fun e => by cases e; exact hne rfl)).trans Z4.out
  have R6 : Hid (∀ o, RdR w R g l.length cap (w5.alloc o) s5) := fun o => r5.alloc o
  have Z6 : Hid (∀ o, (w5.alloc o).heap[w.heap.size]? = some (.cells #[.int .i64 0, .int .i64 0, .int .i64 0, .int .i64 0, .int .i64 0, .int .i64 0, .string ⟨#[]⟩] 26)) := fun o => (Below.heap_alloc _ _ _ (Array.getElem?_eq_some_iff.1 Z5.out).1).trans Z5.out
  have hRb : R < w5.heap.size := r5.lt
  have hwb : w.heap.size < w5.heap.size := (Array.getElem?_eq_some_iff.1 Z5.out).1
  clear r5 g5 R4 Z4 Z5 H1 H2 H3 H4 H5
  have k1 : ∀ o, (w5.alloc o).cell? ⟨R, 1, none⟩ = some (.int .i64 (s5.1 : Nat)) := fun o => (R6.out o).2.2.2.2.1
  have hp1 : (s5.1 : Int) ≤ (cap : Int) := by omega
  have hp0 : (0 : Int) ≤ (s5.1 : Int) := by omega
  go_wp2_with fail
  (go_at_call 12; refine (HS.out _ (R6.out _).1).mono ?_; rintro e w' ⟨rfl, rfl⟩)
  go_wp2_with fail
  obtain ⟨bs, hbs⟩ : ∃ bs, bs = w5.heap.size := ⟨_, rfl⟩
  have hbw : bs ≠ w.heap.size := by omega
  have hbR : bs ≠ R := by omega
  have hb0 : w.heap.size ≤ bs := by omega
  obtain ⟨W6, hW6⟩ : ∃ W6, W6 = w5.alloc (.cells #[.int .i64 (a : Nat), .int .i64 (b : Nat), .int .i64 (c : Nat), .int .i64 (d : Nat), .int .i64 (q : Nat), .int .i64 (k : Nat), .string T] 26) := ⟨_, rfl⟩
  have S6 : Hid (W6.heap[bs]? = some (.cells #[.int .i64 (a : Nat), .int .i64 (b : Nat), .int .i64 (c : Nat), .int .i64 (d : Nat), .int .i64 (q : Nat), .int .i64 (k : Nat), .string T] 26)) := by
    show _ = _
    rw [hW6, hbs]; exact heap_alloc_new w5 _
  have RD6 : Hid (RdR w R g l.length cap W6 s5) := by rw [hW6]; exact R6.out _
  have ZD6 : Hid (W6.heap[w.heap.size]? = some (.cells #[.int .i64 0, .int .i64 0, .int .i64 0, .int .i64 0, .int .i64 0, .int .i64 0, .string ⟨#[]⟩] 26)) := by
    show _ = _
    rw [hW6]; exact Z6.out _
  rw [← hW6, ← hbs]
  clear R6 Z6 k1 hW6 hbs HS
  obtain ⟨_, v6, _⟩ := HV.out W6 RD6.out.1
  go_cut [24] (fun _ wx => RdR w R g l.length cap wx s6 ∧ wx.heap[w.heap.size]? = some (.cells #[.int .i64 0, .int .i64 0, .int .i64 0, .int .i64 0, .int .i64 0, .int .i64 0, .string ⟨#[]⟩] 26) ∧ wx.heap[bs]? = some (.cells #[.int .i64 (a : Nat), .int .i64 (b : Nat), .int .i64 (c : Nat), .int .i64 (d : Nat), .int .i64 (q : Nat), .int .i64 (k : Nat), .string T] 26))
  case first =>
    go_region_with (first
      | (go_at_call 60; refine (H8.out _ (by first | exact RD6.out | exact RD6.out.drewN 1)).mono ?_; rintro e w7 ⟨rfl, r7, g7⟩; obtain ⟨_, v7, _⟩ := HV.out w7 r7.1
         have Z7 : Hid (w7.heap[w.heap.size]? = some (.cells #[.int .i64 0, .int .i64 0, .int .i64 0, .int .i64 0, .int .i64 0, .int .i64 0, .string ⟨#[]⟩] 26)) := (g7.block _ (Array.getElem?_eq_some_iff.1 ZD6.out).1 (fun e => by cases e; exact hne rfl)).trans ZD6.out
         have S7 : Hid (w7.heap[bs]? = some (.cells #[.int .i64 (a : Nat), .int .i64 (b : Nat), .int .i64 (c : Nat), .int .i64 (d : Nat), .int .i64 (q : Nat), .int .i64 (k : Nat), .string T] 26)) := (g7.block _ (Array.getElem?_eq_some_iff.1 S6.out).1 (fun e => by cases e; exact hbR rfl)).trans S6.out
         have R7 := Lib.hid r7; clear r7 g7)
      | (go_at_call 62; refine (HM.out _ _ _ _ _ R7.out).mono ?_; rintro e w8 ⟨rfl, r8, g8⟩
         have Z8 : Hid (w8.heap[w.heap.size]? = some (.cells #[.int .i64 0, .int .i64 0, .int .i64 0, .int .i64 0, .int .i64 0, .int .i64 0, .string ⟨#[]⟩] 26)) := (g8.block _ (Array.getElem?_eq_some_iff.1 Z7.out).1 (fun e => by cases e; exact hne rfl)).trans Z7.out
         have S8 : Hid (w8.heap[bs]? = some (.cells #[.int .i64 (a : Nat), .int .i64 (b : Nat), .int .i64 (c : Nat), .int .i64 (d : Nat), .int .i64 (q : Nat), .int .i64 (k : Nat), .string T] 26)) := (g8.block _ (Array.getElem?_eq_some_iff.1 S7.out).1 (fun e => by cases e; exact hbR rfl)).trans S7.out
         have R8 := Lib.hid r8; clear r8 g8))
    all_goals
      go_wp2_with fail
      go_meet
      exact ⟨by rw [T6.out]; exact R8.out, Z8.out, S8.out⟩
  case rest =>
    obtain ⟨r9, z9, s9⟩ := hcut
    have k1 := r9.2.2.2.2.1
    obtain ⟨v9, _, _⟩ := HV.out wc r9.1
    have R9 := Lib.hid r9
    have Z9 := Lib.hid z9
    have S9 := Lib.hid s9
    clear r9 z9 s9 S6 RD6 ZD6 v6 H8
    go_wp2_with fail
    (go_at_call 62; refine (HM.out _ _ _ _ _ R9.out).mono ?_; rintro e w10 ⟨rfl, r10, g10⟩)
    rw [← T7.out] at r10
    have Z10 : Hid (w10.heap[w.heap.size]? = some (.cells #[.int .i64 0, .int .i64 0, .int .i64 0, .int .i64 0, .int .i64 0, .int .i64 0, .string ⟨#[]⟩] 26)) := (g10.block _ (Array.getElem?_eq_some_iff.1 Z9.out).1 (fun e => by cases e; exact hne rfl)).trans Z9.out
    have S10 : Hid (w10.heap[bs]? = some (.cells #[.int .i64 (a : Nat), .int .i64 (b : Nat), .int .i64 (c : Nat), .int .i64 (d : Nat), .int .i64 (q : Nat), .int .i64 (k : Nat), .string T] 26)) := (g10.block _ (Array.getElem?_eq_some_iff.1 S9.out).1 (fun e => by cases e; exact hbR rfl)).trans S9.out
    have R10 := Lib.hid r10
    clear r10 g10 k1 v9 R9 Z9 S9
    obtain ⟨_, _, v10⟩ := HV.out w10 R10.out.1
    have hS := S10.out
    obtain ⟨k0, k1, k2, k3, k4, k5, k6⟩ : Box7 w10 bs (.int .i64 (a : Nat)) (.int .i64 (b : Nat)) (.int .i64 (c : Nat)) (.int .i64 (d : Nat)) (.int .i64 (q : Nat)) (.int .i64 (k : Nat)) (.string T) := by
      refine ⟨?_, ?_, ?_, ?_, ?_, ?_, ?_⟩ <;> simp [World.cell?, hS]
    clear hS
    go_wp2_with fail
    go_cut [35] (fun _ wx => RdR w R g l.length cap wx s8 ∧ wx.heap[w.heap.size]? = some (.cells #[.int .i64 0, .int .i64 0, .int .i64 0, .int .i64 0, .int .i64 0, .int .i64 0, .string ⟨#[]⟩] 26) ∧ wx.heap[bs]? = some (.cells #[.int .i64 (a : Nat), .int .i64 (b : Nat), .int .i64 (c : Nat), .int .i64 (d : Nat), .int .i64 (q : Nat), .int .i64 (k : Nat), .string T] 26))
    case first =>
      go_region_with (first
        | (go_at_call 10; refine (HO.out _).mono ?_; rintro e w11 ⟨rfl, b11⟩
           have R11 : Hid (RdR w R g l.length cap w11 s7) := (by first | exact R10.out.later b11 | exact (R10.out.drewN 1).later b11)
           obtain ⟨_, _, v11⟩ := HV.out w11 R11.out.1
           have Z11 : Hid (w11.heap[w.heap.size]? = some (.cells #[.int .i64 0, .int .i64 0, .int .i64 0, .int .i64 0, .int .i64 0, .int .i64 0, .string ⟨#[]⟩] 26)) := (b11.block _ (Array.getElem?_eq_some_iff.1 Z10.out).1).trans Z10.out
           have S11 : Hid (w11.heap[bs]? = some (.cells #[.int .i64 (a : Nat), .int .i64 (b : Nat), .int .i64 (c : Nat), .int .i64 (d : Nat), .int .i64 (q : Nat), .int .i64 (k : Nat), .string T] 26)) := (b11.block _ (Array.getElem?_eq_some_iff.1 S10.out).1).trans S10.out
           clear b11)
        | (go_at_call 62; refine (HM.out _ _ _ _ _ R11.out).mono ?_; rintro e w12 ⟨rfl, r12, g12⟩
           have Z12 : Hid (w12.heap[w.heap.size]? = some (.cells #[.int .i64 0, .int .i64 0, .int .i64 0, .int .i64 0, .int .i64 0, .int .i64 0, .string ⟨#[]⟩] 26)) := (g12.block _ (Array.getElem?_eq_some_iff.1 Z11.out).1 (fun e => by cases e; exact hne rfl)).trans Z11.out
           have S12 : Hid (w12.heap[bs]? = some (.cells #[.int .i64 (a : Nat), .int .i64 (b : Nat), .int .i64 (c : Nat), .int .i64 (d : Nat), .int .i64 (q : Nat), .int .i64 (k : Nat), .string T] 26)) := (g12.block _ (Array.getElem?_eq_some_iff.1 S11.out).1 (fun e => by cases e; exact hbR rfl)).trans S11.out
           have R12 := Lib.hid r12; clear r12 g12))
      all_goals
        go_wp2_with fail
        go_meet
        exact ⟨by rw [T8.out]; exact R12.out, Z12.out, S12.out⟩
    case rest =>
      obtain ⟨r13, z13, s13⟩ := hcut
      obtain ⟨z0, z1, z2, z3, z4, z5, z6⟩ : Box7 wc w.heap.size (.int .i64 0) (.int .i64 0) (.int .i64 0) (.int .i64 0) (.int .i64 0) (.int .i64 0) (.string ⟨#[]⟩) := by
        refine ⟨?_, ?_, ?_, ?_, ?_, ?_, ?_⟩ <;> simp [World.cell?, z13]
      have f0 : wc.frozen? ⟨w.heap.size, 0, none⟩ = false := by simp [World.frozen?, z13]
      have f1 : wc.frozen? ⟨w.heap.size, 1, none⟩ = false := by simp [World.frozen?, z13]
      have f2 : wc.frozen? ⟨w.heap.size, 2, none⟩ = false := by simp [World.frozen?, z13]
      have f3 : wc.frozen? ⟨w.heap.size, 3, none⟩ = false := by simp [World.frozen?, z13]
      have f4 : wc.frozen? ⟨w.heap.size, 4, none⟩ = false := by simp [World.frozen?, z13]
      have f5 : wc.frozen? ⟨w.heap.size, 5, none⟩ = false := by simp [World.frozen?, z13]
      have f6 : wc.frozen? ⟨w.heap.size, 6, none⟩ = false := by simp [World.frozen?, z13]
      have B13 := Lib.hid r13.1
      have hRc : R < wc.heap.size := r13.lt
      rcases r13.2.2.2.2.2.2.2 with ⟨hs, h2⟩ | ⟨hs, t, p, h2⟩
      · have HS8 := Lib.hid hs
        obtain ⟨k0, k1, k2, k3, k4, k5, k6⟩ : Box7 wc bs (.int .i64 (a : Nat)) (.int .i64 (b : Nat)) (.int .i64 (c : Nat)) (.int .i64 (d : Nat)) (.int .i64 (q : Nat)) (.int .i64 (k : Nat)) (.string T) := by
          refine ⟨?_, ?_, ?_, ?_, ?_, ?_, ?_⟩ <;> simp [World.cell?, s13]
        clear hs r13 z13 s13
        go_wp2_with fail
        obtain ⟨q0, q1, q2, q3, q4, q5, q6⟩ := set_seven (w := wc) (b := w.heap.size) (.int .i64 (a : Nat)) (.int .i64 (b : Nat)) (.int .i64 (c : Nat)) (.int .i64 (d : Nat)) (.int .i64 (q : Nat)) (.int .i64 (k : Nat)) (.string T) z0 z1 z2 z3 z4 z5 z6
        refine bodyPost_ret (v := .tuple #[.agg #[.int .i64 (a : Nat), .int .i64 (b : Nat), .int .i64 (c : Nat), .int .i64 (d : Nat), .int .i64 (q : Nat), .int .i64 (k : Nat), .string T], .nilIface]) (by simp [results, Tryd.results37, go_sem, q0, q1, q2, q3, q4, q5, q6]) rfl ⟨fun _ => rfl, (fun h => absurd h (by rw [HS8.out]; decide)), ?_⟩
        exact ((((((B13.out.setCell (Nat.le_refl _) _).setCell (Nat.le_refl _) _).setCell (Nat.le_refl _) _).setCell (Nat.le_refl _) _).setCell (Nat.le_refl _) _).setCell (Nat.le_refl _) _).setCell (Nat.le_refl _) _
      · have HS8 := Lib.hid hs
        clear hs r13 z13 s13
        go_wp2_with fail
        go_region
        go_wp2
        obtain ⟨q0, q1, q2, q3, q4, q5, q6⟩ := set_seven (w := wc) (b := w.heap.size) (.int .i64 0) (.int .i64 0) (.int .i64 0) (.int .i64 0) (.int .i64 0) (.int .i64 0) (.string ⟨#[]⟩) z0 z1 z2 z3 z4 z5 z6
        refine bodyPost_ret (v := .tuple #[.agg #[.int .i64 0, .int .i64 0, .int .i64 0, .int .i64 0, .int .i64 0, .int .i64 0, .string ⟨#[]⟩], .iface t p]) (by simp [results, Tryd.results37, go_sem, q0, q1, q2, q3, q4, q5, q6]) rfl ⟨(fun h => absurd h (by rw [HS8.out]; decide)), fun _ => ⟨_, _, rfl⟩, ?_⟩
        exact (((((((B13.out.setCell (Nat.le_refl _) _).setCell (Nat.le_refl _) _).setCell (Nat.le_refl _) _).setCell (Nat.le_refl _) _).setCell (Nat.le_refl _) _).setCell (Nat.le_refl _) _).setCell (Nat.le_refl _) _).drew

end Go.Proofs.YtjnhmobdigfpiaaDoor
