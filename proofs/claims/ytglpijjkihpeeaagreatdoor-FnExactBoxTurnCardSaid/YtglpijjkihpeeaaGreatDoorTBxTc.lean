/- An argument's table, wherever it lies, as the program's: it lies in a block of ends alone. Condition: at most 2^22 ends. (Several texts, joined: SFindCn, SConn, ArgCn, OpenRul, ArgTab, OpenTab, OpenBx, ArgOwn.) -/
import Derived.Test.YtglpijjkihpeeaaGreatDoorTBxTb
import Derived.Test.YtglpijjkihpeeaaGreatDoorSMap
import Derived.Lib.QuietBelow
import Derived.Test.YtglpijjkihpeeaaGreatDoorTBxTa
import Derived.Test.YtglpijjkihpeeaaGreatDoorEnd
import Derived.Test.YtglpijjkihpeeaaGreatDoorCnMem
import Derived.Test.YtglpijjkihpeeaaGreatDoorRulLaw
import Derived.ProofKit
import Derived.OpenShut
import Derived.ShutString
import Derived.ChangeOld
import Derived.ChangeSame
import Derived.Lib.SmallJoins
import Derived.Carry
import Derived.Deep.Slices
import Derived.Test.YtglpijjkihpeeaaGreatDoorToTab
import Derived.Deep.SlicePairs
import Derived.Test.YtglpijjkihpeeaaGreatDoorBoxMk

/- Where streams stand, as the specification looks for them. Condition: at most 2^22 streams. -/
namespace Go.Proofs.YtglpijjkihpeeaaGreatDoor
open Go.RowKit Go.Sort

set_option maxRecDepth 100000 in
set_option maxHeartbeats 1600000 in
theorem specFindCn_any (v : Value) (cs : List Cn) (ia ip oa op : Int) (w : World) (hn : cs.length ≤ 4194304) (hv : RdCn w v cs) :
    Calls Tryz.prog 148 #[v, .agg #[.int .i64 ia, .int .i64 ip], .agg #[.int .i64 oa, .int .i64 op]] w fun e w' => e = .returned (.int .i64 (findCn cs ia ip oa op)) ∧ Below w.heap.size w w' := by
  obtain ⟨ad, cap, rfl, hcap, hr⟩ := hv
  have HR := Lib.hid hr
  clear hr
  go_enter Tryz.func148, Tryz.ntmps148
  go_wp2
  go_loopw [7] (fun i wr => ∃ k : Nat, k ≤ cs.length ∧ i = .int .i64 k ∧ (∀ j (hj : j < k) (hl : j < cs.length), sameCn cs[j] ia ip oa op = false) ∧ wr.cell? ⟨w.heap.size, 0, none⟩ = some (.int .i64 ia) ∧ wr.cell? ⟨w.heap.size, 1, none⟩ = some (.int .i64 ip) ∧ wr.cell? ⟨w.heap.size + 1, 0, none⟩ = some (.int .i64 oa) ∧ wr.cell? ⟨w.heap.size + 1, 1, none⟩ = some (.int .i64 op) ∧ Below w.heap.size w wr) (fun i _ => cs.length - (intOf i).toNat)
  case atStart => exact ⟨0, Nat.zero_le _, rfl, fun j hj => by omega, by simp, by simp, by simp, by simp, ((Below.refl _ _).alloc (Nat.le_refl _) _).alloc (by simp) _⟩
  case round =>
    obtain ⟨k, hk, rfl, hd, k0, k1, k2, k3, hb⟩ := hrel
    have HD := Lib.hid hd
    clear hd
    by_cases hlt : k < cs.length
    · obtain ⟨g, rfl, hrow⟩ := HR.out (by omega)
      have hl : 0 < (flatC cnC cs).length := by rw [flatC_len cnC_len]; omega
      obtain ⟨⟨a, p, o, q, kn, he, ne⟩, hp⟩ : ∃ p, p = cs[k] := ⟨_, rfl⟩
      obtain ⟨⟨r0, r1, r2, r3, _, _, _⟩, _⟩ := (hrow.below hb (hrow.lt hl)).conn k hlt _ hp
      simp only at r0 r1 r2 r3
      have HP := Lib.hid hp
      have hk2 : (k : Int) ≤ (cap : Int) := by omega
      clear hp hrow HR hl
      have g1 := eqEnds1
      have g2 := eqEnds2
      have HX : Hid (sameCn cs[k] ia ip oa op = (decide (a = ia) && decide (p = ip) && (decide (o = oa) && decide (q = op)))) := by show _ = _; rw [← HP.out]; rfl
      have HN : Hid (sameCn cs[k] ia ip oa op = false → ∀ j (hj : j < k + 1) (hl : j < cs.length), sameCn cs[j] ia ip oa op = false) := fun h j hj hl => by
        by_cases e : j = k
        · subst e; exact h
        · exact HD.out j (by omega) hl
      clear HP
      by_cases h1 : a = ia
      rotate_left
      · have HF : Hid (sameCn cs[k] ia ip oa op = false) := by show _ = _; rw [HX.out]; simp [h1]
        clear HX
        go_wp2_with fail
        go_quiet (fail)
        go_wp2
        go_roundw
        case rel => exact ⟨k + 1, by omega, by go_num, HN.out HF.out, k0, k1, k2, k3, hb.trans ⟨rfl, rfl, rfl, Nat.le_refl _, fun _ _ => rfl⟩⟩
        case measure => simp [intOf]; omega
      subst h1
      by_cases h2 : p = ip
      rotate_left
      · have HF : Hid (sameCn cs[k] a ip oa op = false) := by show _ = _; rw [HX.out]; simp [h2]
        clear HX
        go_wp2_with fail
        go_quiet (fail)
        go_wp2
        go_roundw
        case rel => exact ⟨k + 1, by omega, by go_num, HN.out HF.out, k0, k1, k2, k3, hb.trans ⟨rfl, rfl, rfl, Nat.le_refl _, fun _ _ => rfl⟩⟩
        case measure => simp [intOf]; omega
      subst h2
      by_cases h3 : o = oa
      rotate_left
      · have HF : Hid (sameCn cs[k] a p oa op = false) := by show _ = _; rw [HX.out]; simp [h3]
        clear HX
        go_wp2_with fail
        go_quiet (fail)
        go_wp2
        go_roundw
        case rel => exact ⟨k + 1, by omega, by go_num, HN.out HF.out, k0, k1, k2, k3, hb.trans ⟨rfl, rfl, rfl, Nat.le_refl _, fun _ _ => rfl⟩⟩
        case measure => simp [intOf]; omega
      subst h3
      by_cases h4 : q = op
      rotate_left
      · have HF : Hid (sameCn cs[k] a p o op = false) := by show _ = _; rw [HX.out]; simp [h4]
        clear HX
        go_wp2_with fail
        go_quiet (fail)
        go_wp2
        go_roundw
        case rel => exact ⟨k + 1, by omega, by go_num, HN.out HF.out, k0, k1, k2, k3, hb.trans ⟨rfl, rfl, rfl, Nat.le_refl _, fun _ _ => rfl⟩⟩
        case measure => simp [intOf]; omega
      subst h4
      have HT : Hid (findCn cs a p o q = k) := findCn_hit hlt (by rw [HX.out]; simp) fun j hj => HD.out j hj (by omega)
      clear HX HN HD
      go_wp2_with fail
      go_quiet (fail)
      go_wp2
      go_ret
      exact ⟨ret_int HT.out.symm, hb.trans ⟨rfl, rfl, rfl, Nat.le_refl _, fun _ _ => rfl⟩⟩
    · go_wp2
      go_ret
      exact ⟨ret_int (findCn_miss fun j hj => HD.out j (by omega) hj).symm, hb⟩

end Go.Proofs.YtglpijjkihpeeaaGreatDoor

/- Whether streams are ok, as the specification asks. Conditions: at most 2^22 streams; texts of at most 2^21 bytes. -/
namespace Go.Proofs.YtglpijjkihpeeaaGreatDoor
open Go.RowKit Go.Sort

/-- The texts of streams are no longer than may be read. -/
def cnSz (cs : List Cn) : Prop := ∀ c ∈ cs, c.kn.size ≤ 2097152 ∧ c.he.size ≤ 2097152 ∧ c.ne.size ≤ 2097152
theorem seven_all {w : World} {b : Nat} {t : TypeId} {x0 x1 x2 x3 x4 x5 x6 : Value} (h : Blk w b t [x0, x1, x2, x3, x4, x5, x6]) :
    w.cell? ⟨b, 0, none⟩ = some x0 ∧ w.cell? ⟨b, 1, none⟩ = some x1 ∧ w.cell? ⟨b, 2, none⟩ = some x2 ∧ w.cell? ⟨b, 3, none⟩ = some x3 ∧ w.cell? ⟨b, 4, none⟩ = some x4 ∧ w.cell? ⟨b, 5, none⟩ = some x5 ∧ w.cell? ⟨b, 6, none⟩ = some x6 :=
  ⟨(h.cell 0 x0 rfl).1, (h.cell 1 x1 rfl).1, (h.cell 2 x2 rfl).1, (h.cell 3 x3 rfl).1, (h.cell 4 x4 rfl).1, (h.cell 5 x5 rfl).1, (h.cell 6 x6 rfl).1⟩

set_option maxRecDepth 100000 in
set_option maxHeartbeats 6400000 in
theorem specConn_any (B : Nat) (ar : Option Addr) (nr cr : Nat) (ad : Addr) (capt : Nat) (es : List (Int × Int)) (ac : Option Addr) (cc : Nat) (cs : List Cn) (k : Nat) (w : World) (hm : mapB es = true) (hB : B ≤ w.heap.size)
    (ho : OwnTab w B (.slice (some ad) es.length capt) es) (hc : RdCn w (.slice ac cs.length cc) cs) (hk : k < cs.length) (hn : cs.length ≤ 4194304) (hsz : cnSz cs) :
    Calls Tryz.prog 109 #[.agg #[.slice ar nr cr, .slice (some ad) es.length capt, .slice ac cs.length cc], .int .i64 k] w fun e w' => e = .returned (.bool (connB es cs k)) ∧ Below w.heap.size w w' := by
  have hle : es.length ≤ 6 := by
    unfold mapB at hm
    simp only [Bool.and_eq_true, decide_eq_true_eq] at hm
    exact hm.1
  obtain ⟨⟨ia, ip, oa, op, kn, he, ne⟩, hp⟩ : ∃ c, c = cs[k] := ⟨_, rfl⟩
  obtain ⟨hs1, hs2, hs3⟩ := hsz ⟨ia, ip, oa, op, kn, he, ne⟩ (by rw [hp]; exact List.getElem_mem hk)
  simp only at hs1 hs2 hs3
  have HC : Hid (connB es cs k = (insB ia ip && outB oa op && decide (op = 21) && decide (portI es (ia, ip) ≠ 0) && strB kn.data.toList && strB he.data.toList && (knowB es kn.data.toList && nearB es he.data.toList ne.data.toList) && decide (findCn (cs.take k) ia ip oa op < 0))) := by
    show connB es cs k = _
    unfold connB
    rw [show cs.getD k default = ⟨ia, ip, oa, op, kn, he, ne⟩ from by simp [List.getD, hk, ← hp]]
    rfl
  obtain ⟨Q, hQ⟩ : ∃ Q, Q = connB es cs k := ⟨_, rfl⟩
  rw [← hQ] at HC ⊢
  clear hQ
  have C1 : Hid (∀ w, Calls Tryz.prog 53 #[.agg #[.int .i64 ia, .int .i64 ip]] w fun e w' => e = .returned (.bool (insB ia ip)) ∧ Below w.heap.size w w') := fun w => specInside_any ia ip w
  have C2 : Hid (∀ w, Calls Tryz.prog 126 #[.agg #[.int .i64 oa, .int .i64 op]] w fun e w' => e = .returned (.bool (outB oa op)) ∧ Below w.heap.size w w') := fun w => specOutside_any oa op w
  have C4 : Hid (∀ w, TabAt w (.slice (some ad) es.length capt) es → Calls Tryz.prog 113 #[.agg #[.slice (some ad) es.length capt], .agg #[.int .i64 ia, .int .i64 ip]] w fun e w' => e = .returned (.int .i64 (portI es (ia, ip))) ∧ Below w.heap.size w w') := fun w h => specPort_any _ es ia ip w (by omega) h
  have CS : Hid (∀ (t : ByteArray) w, t.size ≤ 2097152 → Calls Tryz.prog 145 #[.string t] w fun e w' => e = .returned (.bool (strB t.data.toList)) ∧ Below w.heap.size w w') := fun t w h => specStr_any t w h
  have C7 : Hid (∀ w', Below w.heap.size w w' → Calls Tryz.prog 146 #[.agg #[.slice (some ad) es.length capt], .string kn] w' fun e w'' => e = .returned (.bool (knowB es kn.data.toList)) ∧ Below w'.heap.size w' w'') := fun w' h => specKnow_any B ad capt es kn w' hm hs1 (Nat.le_trans hB h.size) (own_later ho h)
  have C8 : Hid (∀ w', Below w.heap.size w w' → Calls Tryz.prog 147 #[.agg #[.slice (some ad) es.length capt], .string he, .string ne] w' fun e w'' => e = .returned (.bool (nearB es he.data.toList ne.data.toList)) ∧ Below w'.heap.size w' w'') := fun w' h => specNear_any _ es he ne w' (by omega) hs2 hs3 (OwnTab.tab (own_later ho h))
  have C9 : Hid (∀ w', Below w.heap.size w w' → Calls Tryz.prog 148 #[.slice ac k cc, .agg #[.int .i64 ia, .int .i64 ip], .agg #[.int .i64 oa, .int .i64 op]] w' fun e w'' => e = .returned (.int .i64 (findCn (cs.take k) ia ip oa op)) ∧ Below w'.heap.size w' w'') := fun w' h => specFindCn_any _ (cs.take k) ia ip oa op w' (by rw [List.length_take]; omega) ((hc.below h).take ⟨7, cnC_len⟩ (by omega))
  have HT : Hid (∀ w', Below w.heap.size w w' → TabAt w' (.slice (some ad) es.length capt) es) := fun w' h => OwnTab.tab (own_later ho h)
  obtain ⟨q1, e1⟩ : ∃ q, q = insB ia ip := ⟨_, rfl⟩
  obtain ⟨q2, e2⟩ : ∃ q, q = outB oa op := ⟨_, rfl⟩
  obtain ⟨z4, e4⟩ : ∃ q, q = portI es (ia, ip) := ⟨_, rfl⟩
  obtain ⟨q5, e5⟩ : ∃ q, q = strB kn.data.toList := ⟨_, rfl⟩
  obtain ⟨q6, e6⟩ : ∃ q, q = strB he.data.toList := ⟨_, rfl⟩
  obtain ⟨q7, e7⟩ : ∃ q, q = knowB es kn.data.toList := ⟨_, rfl⟩
  obtain ⟨q8, e8⟩ : ∃ q, q = nearB es he.data.toList ne.data.toList := ⟨_, rfl⟩
  obtain ⟨z9, e9⟩ : ∃ q, q = findCn (cs.take k) ia ip oa op := ⟨_, rfl⟩
  rw [← e1] at C1 HC
  rw [← e2] at C2 HC
  rw [← e4] at C4 HC
  rw [← e5] at HC
  have E5 := e5.symm
  rw [← e6] at HC
  have E6 := e6.symm
  rw [← e7] at C7 HC
  rw [← e8] at C8 HC
  rw [← e9] at C9 HC
  clear e1 e2 e4 e5 e6 e7 e8 e9
  obtain ⟨ax, cx, ex, hcc, hrow⟩ := hc
  simp at ex
  obtain ⟨rfl, rfl⟩ := ex
  obtain ⟨g, rfl, hrw⟩ := hrow (by omega)
  have hgl : g < w.heap.size := hrw.lt (by rw [flatC_len cnC_len]; omega)
  obtain ⟨⟨r0, r1, r2, r3, r4, r5, r6⟩, _⟩ := hrw.conn k hk _ hp
  simp only at r0 r1 r2 r3 r4 r5 r6
  have HR : Hid (∀ o, ((w.alloc o).cell? ⟨g, k * 7, none⟩ = some (.int .i64 ia) ∧ (w.alloc o).cell? ⟨g, k * 7 + 1, none⟩ = some (.int .i64 ip) ∧ (w.alloc o).cell? ⟨g, k * 7 + 2, none⟩ = some (.int .i64 oa) ∧ (w.alloc o).cell? ⟨g, k * 7 + 3, none⟩ = some (.int .i64 op) ∧ (w.alloc o).cell? ⟨g, k * 7 + 4, none⟩ = some (.string kn) ∧ (w.alloc o).cell? ⟨g, k * 7 + 5, none⟩ = some (.string he) ∧ (w.alloc o).cell? ⟨g, k * 7 + 6, none⟩ = some (.string ne))) := fun o =>
    ⟨(cell_alloc_lt hgl).trans r0, (cell_alloc_lt hgl).trans r1, (cell_alloc_lt hgl).trans r2, (cell_alloc_lt hgl).trans r3, (cell_alloc_lt hgl).trans r4, (cell_alloc_lt hgl).trans r5, (cell_alloc_lt hgl).trans r6⟩
  have hk1 : (k : Int) ≤ (cc : Int) := by omega
  have hk2 : (k : Int) < (cs.length : Int) := by omega
  have hk3 : (0 : Int) ≤ (k : Int) := by omega
  clear r0 r1 r2 r3 r4 r5 r6 hrw hrow hp ho hm hs3 hsz
  obtain ⟨W1, hW1⟩ : ∃ W, W = (w.alloc (.cells #[.slice ar nr cr, .slice (some ad) es.length capt, .slice (some ⟨g, 0, none⟩) cs.length cc] 30)).alloc (.cells #[.int .i64 ia, .int .i64 ip, .int .i64 oa, .int .i64 op, .string kn, .string he, .string ne] 87) := ⟨_, rfl⟩
  have hB1 : Below w.heap.size w W1 := by rw [hW1]; exact ((Below.refl _ _).alloc (Nat.le_refl _) _).alloc (by simp) _
  have K1 : Blk W1 w.heap.size 30 [.slice ar nr cr, .slice (some ad) es.length capt, .slice (some ⟨g, 0, none⟩) cs.length cc] := by rw [hW1]; exact (three_new w _ _ _ _).below ((Below.refl _ _).alloc (Nat.le_refl _) _)
  have K2 : Blk W1 (w.heap.size + 1) 87 [.int .i64 ia, .int .i64 ip, .int .i64 oa, .int .i64 op, .string kn, .string he, .string ne] := by
    rw [hW1]
    have := heap_last3 (w.alloc (.cells #[.slice ar nr cr, .slice (some ad) es.length capt, .slice (some ⟨g, 0, none⟩) cs.length cc] 30)) (.cells #[.int .i64 ia, .int .i64 ip, .int .i64 oa, .int .i64 op, .string kn, .string he, .string ne] 87)
    unfold Blk
    simpa using this
  have HF : Hid (∀ w', Below W1.heap.size W1 w' → (w'.cell? ⟨w.heap.size, 1, none⟩ = some (.slice (some ad) es.length capt) ∧ w'.cell? ⟨w.heap.size, 2, none⟩ = some (.slice (some ⟨g, 0, none⟩) cs.length cc)) ∧ (w'.cell? ⟨w.heap.size + 1, 0, none⟩ = some (.int .i64 ia) ∧ w'.cell? ⟨w.heap.size + 1, 1, none⟩ = some (.int .i64 ip) ∧ w'.cell? ⟨w.heap.size + 1, 2, none⟩ = some (.int .i64 oa) ∧ w'.cell? ⟨w.heap.size + 1, 3, none⟩ = some (.int .i64 op) ∧ w'.cell? ⟨w.heap.size + 1, 4, none⟩ = some (.string kn) ∧ w'.cell? ⟨w.heap.size + 1, 5, none⟩ = some (.string he) ∧ w'.cell? ⟨w.heap.size + 1, 6, none⟩ = some (.string ne))) := fun w' h =>
    ⟨(three_all (K1.below h)).1.2, seven_all (K2.below h)⟩
  have HH : Hid (∀ w', Below W1.heap.size W1 w' → Below w.heap.size w w') := fun w' h => hB1.trans (h.mono hB1.size)
  have BB : Hid (Below W1.heap.size W1 W1) := Below.refl _ _
  clear K1 K2 hB1
  subst hW1
  obtain ⟨r0, r1, r2, r3, r4, r5, r6⟩ := HR.out (.cells #[.slice ar nr cr, .slice (some ad) es.length capt, .slice (some ⟨g, 0, none⟩) cs.length cc] 30)
  cases q1
  · have hq : Q = false := by have := HC.out; simpa using this
    subst hq
    clear HC
    go_enter Tryz.func109, Tryz.ntmps109
    go_wp2_with (first
      | (go_at_call 53; refine (C1.out _).mono ?_; rintro e wn ⟨rfl, bn⟩; have BB := Lib.hid (BB.out.trans (bn.mono BB.out.size)); obtain ⟨⟨x1, x2⟩, y0, y1, y2, y3, y4, y5, y6⟩ := HF.out _ BB.out; clear bn)
      | (go_at_call 126; refine (C2.out _).mono ?_; rintro e wn ⟨rfl, bn⟩; have BB := Lib.hid (BB.out.trans (bn.mono BB.out.size)); obtain ⟨⟨x1, x2⟩, y0, y1, y2, y3, y4, y5, y6⟩ := HF.out _ BB.out; clear bn)
      | (go_at_call 113; refine (C4.out _ (HT.out _ (HH.out _ BB.out))).mono ?_; rintro e wn ⟨rfl, bn⟩; have BB := Lib.hid (BB.out.trans (bn.mono BB.out.size)); obtain ⟨⟨x1, x2⟩, y0, y1, y2, y3, y4, y5, y6⟩ := HF.out _ BB.out; clear bn)
      | (go_at_call 145; refine (CS.out _ _ (by assumption)).mono ?_; rintro e wn ⟨hx, bn⟩; (first | rw [E5] at hx | rw [E6] at hx); subst hx; have BB := Lib.hid (BB.out.trans (bn.mono BB.out.size)); obtain ⟨⟨x1, x2⟩, y0, y1, y2, y3, y4, y5, y6⟩ := HF.out _ BB.out; clear bn))
    go_ret
    exact ⟨rfl, HH.out _ BB.out⟩
  cases q2
  · have hq : Q = false := by have := HC.out; simpa using this
    subst hq
    clear HC
    go_enter Tryz.func109, Tryz.ntmps109
    go_wp2_with (first
      | (go_at_call 53; refine (C1.out _).mono ?_; rintro e wn ⟨rfl, bn⟩; have BB := Lib.hid (BB.out.trans (bn.mono BB.out.size)); obtain ⟨⟨x1, x2⟩, y0, y1, y2, y3, y4, y5, y6⟩ := HF.out _ BB.out; clear bn)
      | (go_at_call 126; refine (C2.out _).mono ?_; rintro e wn ⟨rfl, bn⟩; have BB := Lib.hid (BB.out.trans (bn.mono BB.out.size)); obtain ⟨⟨x1, x2⟩, y0, y1, y2, y3, y4, y5, y6⟩ := HF.out _ BB.out; clear bn)
      | (go_at_call 113; refine (C4.out _ (HT.out _ (HH.out _ BB.out))).mono ?_; rintro e wn ⟨rfl, bn⟩; have BB := Lib.hid (BB.out.trans (bn.mono BB.out.size)); obtain ⟨⟨x1, x2⟩, y0, y1, y2, y3, y4, y5, y6⟩ := HF.out _ BB.out; clear bn)
      | (go_at_call 145; refine (CS.out _ _ (by assumption)).mono ?_; rintro e wn ⟨hx, bn⟩; (first | rw [E5] at hx | rw [E6] at hx); subst hx; have BB := Lib.hid (BB.out.trans (bn.mono BB.out.size)); obtain ⟨⟨x1, x2⟩, y0, y1, y2, y3, y4, y5, y6⟩ := HF.out _ BB.out; clear bn))
    go_ret
    exact ⟨rfl, HH.out _ BB.out⟩
  by_cases h3 : op = 21
  rotate_left
  · have hq : Q = false := by have := HC.out; simpa [h3] using this
    subst hq
    clear HC
    go_enter Tryz.func109, Tryz.ntmps109
    go_wp2_with (first
      | (go_at_call 53; refine (C1.out _).mono ?_; rintro e wn ⟨rfl, bn⟩; have BB := Lib.hid (BB.out.trans (bn.mono BB.out.size)); obtain ⟨⟨x1, x2⟩, y0, y1, y2, y3, y4, y5, y6⟩ := HF.out _ BB.out; clear bn)
      | (go_at_call 126; refine (C2.out _).mono ?_; rintro e wn ⟨rfl, bn⟩; have BB := Lib.hid (BB.out.trans (bn.mono BB.out.size)); obtain ⟨⟨x1, x2⟩, y0, y1, y2, y3, y4, y5, y6⟩ := HF.out _ BB.out; clear bn)
      | (go_at_call 113; refine (C4.out _ (HT.out _ (HH.out _ BB.out))).mono ?_; rintro e wn ⟨rfl, bn⟩; have BB := Lib.hid (BB.out.trans (bn.mono BB.out.size)); obtain ⟨⟨x1, x2⟩, y0, y1, y2, y3, y4, y5, y6⟩ := HF.out _ BB.out; clear bn)
      | (go_at_call 145; refine (CS.out _ _ (by assumption)).mono ?_; rintro e wn ⟨hx, bn⟩; (first | rw [E5] at hx | rw [E6] at hx); subst hx; have BB := Lib.hid (BB.out.trans (bn.mono BB.out.size)); obtain ⟨⟨x1, x2⟩, y0, y1, y2, y3, y4, y5, y6⟩ := HF.out _ BB.out; clear bn))
    go_ret
    exact ⟨rfl, HH.out _ BB.out⟩
  subst h3
  by_cases h4 : z4 = 0
  · have hq : Q = false := by have := HC.out; simpa [h4] using this
    subst h4
    subst hq
    clear HC
    go_enter Tryz.func109, Tryz.ntmps109
    go_wp2_with (first
      | (go_at_call 53; refine (C1.out _).mono ?_; rintro e wn ⟨rfl, bn⟩; have BB := Lib.hid (BB.out.trans (bn.mono BB.out.size)); obtain ⟨⟨x1, x2⟩, y0, y1, y2, y3, y4, y5, y6⟩ := HF.out _ BB.out; clear bn)
      | (go_at_call 126; refine (C2.out _).mono ?_; rintro e wn ⟨rfl, bn⟩; have BB := Lib.hid (BB.out.trans (bn.mono BB.out.size)); obtain ⟨⟨x1, x2⟩, y0, y1, y2, y3, y4, y5, y6⟩ := HF.out _ BB.out; clear bn)
      | (go_at_call 113; refine (C4.out _ (HT.out _ (HH.out _ BB.out))).mono ?_; rintro e wn ⟨rfl, bn⟩; have BB := Lib.hid (BB.out.trans (bn.mono BB.out.size)); obtain ⟨⟨x1, x2⟩, y0, y1, y2, y3, y4, y5, y6⟩ := HF.out _ BB.out; clear bn)
      | (go_at_call 145; refine (CS.out _ _ (by assumption)).mono ?_; rintro e wn ⟨hx, bn⟩; (first | rw [E5] at hx | rw [E6] at hx); subst hx; have BB := Lib.hid (BB.out.trans (bn.mono BB.out.size)); obtain ⟨⟨x1, x2⟩, y0, y1, y2, y3, y4, y5, y6⟩ := HF.out _ BB.out; clear bn))
    go_ret
    exact ⟨rfl, HH.out _ BB.out⟩
  cases q5
  · have hq : Q = false := by have := HC.out; simpa using this
    subst hq
    clear HC
    go_enter Tryz.func109, Tryz.ntmps109
    go_wp2_with (first
      | (go_at_call 53; refine (C1.out _).mono ?_; rintro e wn ⟨rfl, bn⟩; have BB := Lib.hid (BB.out.trans (bn.mono BB.out.size)); obtain ⟨⟨x1, x2⟩, y0, y1, y2, y3, y4, y5, y6⟩ := HF.out _ BB.out; clear bn)
      | (go_at_call 126; refine (C2.out _).mono ?_; rintro e wn ⟨rfl, bn⟩; have BB := Lib.hid (BB.out.trans (bn.mono BB.out.size)); obtain ⟨⟨x1, x2⟩, y0, y1, y2, y3, y4, y5, y6⟩ := HF.out _ BB.out; clear bn)
      | (go_at_call 113; refine (C4.out _ (HT.out _ (HH.out _ BB.out))).mono ?_; rintro e wn ⟨rfl, bn⟩; have BB := Lib.hid (BB.out.trans (bn.mono BB.out.size)); obtain ⟨⟨x1, x2⟩, y0, y1, y2, y3, y4, y5, y6⟩ := HF.out _ BB.out; clear bn)
      | (go_at_call 145; refine (CS.out _ _ (by assumption)).mono ?_; rintro e wn ⟨hx, bn⟩; (first | rw [E5] at hx | rw [E6] at hx); subst hx; have BB := Lib.hid (BB.out.trans (bn.mono BB.out.size)); obtain ⟨⟨x1, x2⟩, y0, y1, y2, y3, y4, y5, y6⟩ := HF.out _ BB.out; clear bn))
    go_ret
    exact ⟨rfl, HH.out _ BB.out⟩
  cases q6
  · have hq : Q = false := by have := HC.out; simpa using this
    subst hq
    clear HC
    go_enter Tryz.func109, Tryz.ntmps109
    go_wp2_with (first
      | (go_at_call 53; refine (C1.out _).mono ?_; rintro e wn ⟨rfl, bn⟩; have BB := Lib.hid (BB.out.trans (bn.mono BB.out.size)); obtain ⟨⟨x1, x2⟩, y0, y1, y2, y3, y4, y5, y6⟩ := HF.out _ BB.out; clear bn)
      | (go_at_call 126; refine (C2.out _).mono ?_; rintro e wn ⟨rfl, bn⟩; have BB := Lib.hid (BB.out.trans (bn.mono BB.out.size)); obtain ⟨⟨x1, x2⟩, y0, y1, y2, y3, y4, y5, y6⟩ := HF.out _ BB.out; clear bn)
      | (go_at_call 113; refine (C4.out _ (HT.out _ (HH.out _ BB.out))).mono ?_; rintro e wn ⟨rfl, bn⟩; have BB := Lib.hid (BB.out.trans (bn.mono BB.out.size)); obtain ⟨⟨x1, x2⟩, y0, y1, y2, y3, y4, y5, y6⟩ := HF.out _ BB.out; clear bn)
      | (go_at_call 145; refine (CS.out _ _ (by assumption)).mono ?_; rintro e wn ⟨hx, bn⟩; (first | rw [E5] at hx | rw [E6] at hx); subst hx; have BB := Lib.hid (BB.out.trans (bn.mono BB.out.size)); obtain ⟨⟨x1, x2⟩, y0, y1, y2, y3, y4, y5, y6⟩ := HF.out _ BB.out; clear bn))
    go_ret
    exact ⟨rfl, HH.out _ BB.out⟩
  have HC2 : Hid (Q = ((q7 && q8) && decide (z9 < 0))) := by
    show Q = _
    have := HC.out
    rw [decide_eq_true h4] at this
    simpa using this
  clear HC
  go_enter Tryz.func109, Tryz.ntmps109
  go_wp2_with (first
      | (go_at_call 53; refine (C1.out _).mono ?_; rintro e wn ⟨rfl, bn⟩; have BB := Lib.hid (BB.out.trans (bn.mono BB.out.size)); obtain ⟨⟨x1, x2⟩, y0, y1, y2, y3, y4, y5, y6⟩ := HF.out _ BB.out; clear bn)
      | (go_at_call 126; refine (C2.out _).mono ?_; rintro e wn ⟨rfl, bn⟩; have BB := Lib.hid (BB.out.trans (bn.mono BB.out.size)); obtain ⟨⟨x1, x2⟩, y0, y1, y2, y3, y4, y5, y6⟩ := HF.out _ BB.out; clear bn)
      | (go_at_call 113; refine (C4.out _ (HT.out _ (HH.out _ BB.out))).mono ?_; rintro e wn ⟨rfl, bn⟩; have BB := Lib.hid (BB.out.trans (bn.mono BB.out.size)); obtain ⟨⟨x1, x2⟩, y0, y1, y2, y3, y4, y5, y6⟩ := HF.out _ BB.out; clear bn)
      | (go_at_call 145; refine (CS.out _ _ (by assumption)).mono ?_; rintro e wn ⟨hx, bn⟩; (first | rw [E5] at hx | rw [E6] at hx); subst hx; have BB := Lib.hid (BB.out.trans (bn.mono BB.out.size)); obtain ⟨⟨x1, x2⟩, y0, y1, y2, y3, y4, y5, y6⟩ := HF.out _ BB.out; clear bn))
  have X1 := cell_regrown x1
  have X2 := cell_regrown x2
  have Y0 := cell_regrown y0
  have Y1 := cell_regrown y1
  have Y2 := cell_regrown y2
  have Y3 := cell_regrown y3
  have Y4 := cell_regrown y4
  have Y5 := cell_regrown y5
  have Y6 := cell_regrown y6
  have HN := Lib.hid (HH.out _ BB.out)
  have hGB : ∀ d os, Below w.heap.size w (grow (redrawn wn d) os) := fun d os => HN.out.trans ((below_regrown wn d os).mono HN.out.size)
  have c7 : ∀ d os, Calls Tryz.prog 146 #[.agg #[.slice (some ad) es.length capt], .string kn] (grow (redrawn wn d) os) fun e w'' => e = .returned (.bool q7) ∧ ∃ q : Regrown, w'' = grow (redrawn wn q.d) q.os := fun d os => Calls.regrown_of (C7.out _ (hGB d os))
  have c8 : ∀ d os, Calls Tryz.prog 147 #[.agg #[.slice (some ad) es.length capt], .string he, .string ne] (grow (redrawn wn d) os) fun e w'' => e = .returned (.bool q8) ∧ ∃ q : Regrown, w'' = grow (redrawn wn q.d) q.os := fun d os => Calls.regrown_of (C8.out _ (hGB d os))
  have c9 : ∀ d os, Calls Tryz.prog 148 #[.slice (some ⟨g, 0, none⟩) k cc, .agg #[.int .i64 ia, .int .i64 ip], .agg #[.int .i64 oa, .int .i64 21]] (grow (redrawn wn d) os) fun e w'' => e = .returned (.int .i64 z9) ∧ ∃ q : Regrown, w'' = grow (redrawn wn q.d) q.os := fun d os => Calls.regrown_of (C9.out _ (hGB d os))
  clear x1 x2 y0 y1 y2 y3 y4 y5 y6 r0 r1 r2 r3 r4 r5 r6 hGB HF HH C1 C2 CS C4 C7 C8 C9 HT HR E5 E6 BB hs1 hs2 h4
  cases q7
  rotate_left
  cases q8
  rotate_left
  by_cases h9 : z9 < 0
  · have hq : Q = true := by have := HC2.out; simpa [h9] using this
    have h9' : decide (z9 < 0) = true := decide_eq_true h9
    subst hq
    clear HC2
    go_wp2_with fail
    refine wp_region_quiet_below (by kernel_rfl) (by kernel_rfl) ?_
    repeat (first | go_big_quiet_skip | quiet_step (first | exact c7 _ _ | exact c8 _ _ | exact c9 _ _))
    refine wpQuiet_nil ?_
    intro _ hw'
    obtain ⟨⟨dq, osq⟩, hw''⟩ := hw'
    subst hw''
    go_wp2
    go_ret
    exact ⟨rfl, HN.out.trans ((below_regrown wn dq osq).mono HN.out.size)⟩
  · have hq : Q = false := by have := HC2.out; simpa [h9] using this
    have h9' : decide (z9 < 0) = false := decide_eq_false h9
    subst hq
    clear HC2
    go_wp2_with fail
    refine wp_region_quiet_below (by kernel_rfl) (by kernel_rfl) ?_
    repeat (first | go_big_quiet_skip | quiet_step (first | exact c7 _ _ | exact c8 _ _ | exact c9 _ _))
    refine wpQuiet_nil ?_
    intro _ hw'
    obtain ⟨⟨dq, osq⟩, hw''⟩ := hw'
    subst hw''
    go_wp2
    go_ret
    exact ⟨rfl, HN.out.trans ((below_regrown wn dq osq).mono HN.out.size)⟩
  all_goals
    have hq : Q = false := by have := HC2.out; simpa using this
    subst hq
    clear HC2
    go_wp2_with fail
    refine wp_region_quiet_below (by kernel_rfl) (by kernel_rfl) ?_
    repeat (first | go_big_quiet_skip | quiet_step (first | exact c7 _ _ | exact c8 _ _ | exact c9 _ _))
    refine wpQuiet_nil ?_
    intro _ hw'
    obtain ⟨⟨dq, osq⟩, hw''⟩ := hw'
    subst hw''
    go_wp2
    go_ret
    exact ⟨rfl, HN.out.trans ((below_regrown wn dq osq).mono HN.out.size)⟩

end Go.Proofs.YtglpijjkihpeeaaGreatDoor

/- Streams as the law has them become the program's; what the law says of their size. Condition: at most 2^22 streams. -/
namespace Go.Proofs.YtglpijjkihpeeaaGreatDoor
open Go.RowKit

/-- A slice of streams lies in the world, at any address. -/
def ArgCn (w : World) (v : Value) (l : List Cn) : Prop := ∃ a cap, v = .slice a l.length cap ∧ (l.length ≤ cap ∧ (a = none → cap = 0)) ∧ (0 < l.length → ∃ x : Addr, a = some x ∧ x.block < w.heap.size ∧ ∀ i (hi : i < l.length) j u, (cnC l[i])[j]? = some u → w.cell? (x.add (i * 7 + j)) = some u)
theorem ArgCn.below {w w' : World} {v : Value} {l : List Cn} (h : ArgCn w v l) (hb : Below w.heap.size w w') : ArgCn w' v l := by
  obtain ⟨a, cap, rfl, hc, hr⟩ := h
  refine ⟨a, cap, rfl, hc, fun h => ?_⟩
  obtain ⟨x, rfl, hx, hrow⟩ := hr h
  exact ⟨x, rfl, Nat.lt_of_lt_of_le hx hb.size, fun i hi j u hu => by
    rw [hb.cell (p := x.add (i * 7 + j)) (by rw [add_blk]; exact hx)]; exact hrow i hi j u hu⟩
/-- Streams in a list of the call's own. -/
def OwnCn (w : World) (B : Nat) (v : Value) (l : List Cn) : Prop := w.ownsRow B 87 7 v l.length (flatC cnC l)
theorem OwnCn.fr {w : World} {B : Nat} {v : Value} {l : List Cn} (h : OwnCn w B v l) : FrCn w B v l := FrL.own h
theorem OwnCn.rd {w : World} {B : Nat} {v : Value} {l : List Cn} (h : OwnCn w B v l) : RdCn w v l := RdC.of_own cnC_len (by decide) h

/-- What is left of a size behind streams; below 0, if it is not enough. -/
def szCn (left : Int) (c : Cn) : Int := if left < (c.kn.size : Int) then -1 else if left - c.kn.size < (c.he.size : Int) then -1 else if left - c.kn.size - c.he.size < (c.ne.size : Int) then -1 else left - c.kn.size - c.he.size - c.ne.size
theorem szCn_le {left : Int} {c : Cn} (h : 0 ≤ szCn left c) : c.kn.size ≤ left ∧ c.he.size ≤ left ∧ c.ne.size ≤ left ∧ szCn left c ≤ left := by
  unfold szCn at h ⊢
  split at h <;> rename_i h1
  · omega
  rw [if_neg h1]
  split at h <;> rename_i h2
  · omega
  rw [if_neg h2]
  split at h <;> rename_i h3
  · omega
  rw [if_neg h3]
  omega

set_option maxRecDepth 100000 in
set_option maxHeartbeats 1600000 in
theorem szConn_any (ia ip oa op : Int) (kn he ne : ByteArray) (left : Int) (w : World) (h1 : kn.size ≤ maxLen) (h2 : he.size ≤ maxLen) (h3 : ne.size ≤ maxLen) (h0 : 0 ≤ left) (hl : left ≤ 4194304) :
    Calls Tryz.prog 107 #[.agg #[.int .i64 ia, .int .i64 ip, .int .i64 oa, .int .i64 op, .string kn, .string he, .string ne], .int .i64 left] w fun e w' => e = .returned (.int .i64 (szCn left ⟨ia, ip, oa, op, kn, he, ne⟩)) ∧ Below w.heap.size w w' := by
  unfold maxLen at h1 h2 h3
  have HS : Hid (szCn left ⟨ia, ip, oa, op, kn, he, ne⟩ = if left < (kn.size : Int) then -1 else if left - kn.size < (he.size : Int) then -1 else if left - kn.size - he.size < (ne.size : Int) then -1 else left - kn.size - he.size - ne.size) := rfl
  obtain ⟨z, hz⟩ : ∃ z, z = szCn left ⟨ia, ip, oa, op, kn, he, ne⟩ := ⟨_, rfl⟩
  rw [← hz] at HS ⊢
  clear hz
  by_cases c1 : left < (kn.size : Int)
  · have e : z = -1 := HS.out.trans (by rw [if_pos c1])
    subst e
    clear HS
    go_enter Tryz.func107, Tryz.ntmps107
    go_wp2
    go_ret
    exact ⟨rfl, (Below.refl _ _).alloc (Nat.le_refl _) _⟩
  by_cases c2 : left - kn.size < (he.size : Int)
  · have e : z = -1 := HS.out.trans (by rw [if_neg c1, if_pos c2])
    subst e
    clear HS
    go_enter Tryz.func107, Tryz.ntmps107
    go_wp2
    go_ret
    exact ⟨rfl, (Below.refl _ _).alloc (Nat.le_refl _) _⟩
  by_cases c3 : left - kn.size - he.size < (ne.size : Int)
  · have e : z = -1 := HS.out.trans (by rw [if_neg c1, if_neg c2, if_pos c3])
    subst e
    clear HS
    go_enter Tryz.func107, Tryz.ntmps107
    go_wp2
    go_ret
    exact ⟨rfl, (Below.refl _ _).alloc (Nat.le_refl _) _⟩
  have e : z = left - kn.size - he.size - ne.size := HS.out.trans (by rw [if_neg c1, if_neg c2, if_neg c3])
  subst e
  clear HS
  go_enter Tryz.func107, Tryz.ntmps107
  go_wp2
  go_ret
  exact ⟨rfl, (Below.refl _ _).alloc (Nat.le_refl _) _⟩

/-- The streams' texts are no longer than a length may be. -/
def cnMax (l : List Cn) : Prop := ∀ c ∈ l, c.kn.size ≤ maxLen ∧ c.he.size ≤ maxLen ∧ c.ne.size ≤ maxLen
/-- No text is longer than this. -/
def cnIn (l : List Cn) (m : Int) : Prop := ∀ c ∈ l, (c.kn.size : Int) ≤ m ∧ (c.he.size : Int) ≤ m ∧ (c.ne.size : Int) ≤ m

set_option maxRecDepth 100000 in
set_option maxHeartbeats 3200000 in
theorem szConns_any (v : Value) (l : List Cn) (left : Int) (w : World) (hn : l.length ≤ 9223372036854775807) (hm : cnMax l) (h0 : 0 ≤ left) (h1 : left ≤ 4194304) (hv : ArgCn w v l) :
    Calls Tryz.prog 50 #[v, .int .i64 left] w fun e w' => ∃ z : Int, e = .returned (.int .i64 z) ∧ (z = -1 ∨ (0 ≤ z ∧ z ≤ left ∧ (l.length : Int) ≤ left ∧ cnIn l left)) ∧ Below w.heap.size w w' := by
  obtain ⟨ad, cap, rfl, hcap, hr⟩ := hv
  have HR := Lib.hid hr
  have HM := Lib.hid hm
  clear hr hm
  by_cases h : left < (l.length : Int)
  · go_enter Tryz.func50, Tryz.ntmps50
    go_wp2
    go_ret
    exact ⟨-1, rfl, Or.inl rfl, Below.refl _ _⟩
  go_enter Tryz.func50, Tryz.ntmps50
  go_wp2
  go_loopw [1, 5] (fun m i wr => ∃ (k : Nat) (z : Int), k ≤ l.length ∧ i = .int .i64 k ∧ m = .int .i64 z ∧ (0 ≤ z ∧ z ≤ left - (l.length : Int)) ∧ Hid (cnIn (l.take k) left) ∧ Below w.heap.size w wr) (fun _ i _ => l.length - (intOf i).toNat)
  case atStart => exact ⟨0, left - (l.length : Int), Nat.zero_le _, rfl, rfl, ⟨by omega, Int.le_refl _⟩, fun c hc => by simp at hc, Below.refl _ _⟩
  case round =>
    obtain ⟨k, z, hk, rfl, rfl, ⟨hz0, hz1⟩, HI, hb⟩ := hrel
    by_cases hlt : k < l.length
    · obtain ⟨x, rfl, hx, hrow⟩ := HR.out (by omega)
      obtain ⟨⟨a, b, c, d, s1, s2, s3⟩, hap⟩ : ∃ x, x = l[k] := ⟨_, rfl⟩
      obtain ⟨m1, m2, m3⟩ := HM.out _ (List.getElem_mem hlt)
      have hh := hrow k hlt
      rw [← hap] at hh m1 m2 m3
      simp only at m1 m2 m3
      have hc : ∀ j u, (cnC ⟨a, b, c, d, s1, s2, s3⟩)[j]? = some u → wr.cell? (x.add (k * 7 + j)) = some u := fun j u hu => (hb.cell (p := x.add (k * 7 + j)) (by rw [add_blk]; exact hx)).trans (hh j u hu)
      have c0 : wr.cell? (x.add (k * 7)) = some (.int .i64 a) := hc 0 _ rfl
      have c1 : wr.cell? ⟨(x.add (k * 7)).block, (x.add (k * 7)).off + 1, none⟩ = some (.int .i64 b) := by rw [← add_lit _ _ _ (by decide)]; exact hc 1 _ rfl
      have c2 : wr.cell? ⟨(x.add (k * 7)).block, (x.add (k * 7)).off + 2, none⟩ = some (.int .i64 c) := by rw [← add_lit _ _ _ (by decide)]; exact hc 2 _ rfl
      have c3 : wr.cell? ⟨(x.add (k * 7)).block, (x.add (k * 7)).off + 3, none⟩ = some (.int .i64 d) := by rw [← add_lit _ _ _ (by decide)]; exact hc 3 _ rfl
      have c4 : wr.cell? ⟨(x.add (k * 7)).block, (x.add (k * 7)).off + 4, none⟩ = some (.string s1) := by rw [← add_lit _ _ _ (by decide)]; exact hc 4 _ rfl
      have c5 : wr.cell? ⟨(x.add (k * 7)).block, (x.add (k * 7)).off + 5, none⟩ = some (.string s2) := by rw [← add_lit _ _ _ (by decide)]; exact hc 5 _ rfl
      have c6 : wr.cell? ⟨(x.add (k * 7)).block, (x.add (k * 7)).off + 6, none⟩ = some (.string s3) := by rw [← add_lit _ _ _ (by decide)]; exact hc 6 _ rfl
      have hk2 : (k : Int) ≤ (cap : Int) := by have := hcap.1; omega
      have hk3 : (k : Int) < (l.length : Int) := by omega
      obtain ⟨z', hz'⟩ : ∃ z', z' = szCn z ⟨a, b, c, d, s1, s2, s3⟩ := ⟨_, rfl⟩
      have HC : Hid (∀ w, Calls Tryz.prog 107 #[.agg #[.int .i64 a, .int .i64 b, .int .i64 c, .int .i64 d, .string s1, .string s2, .string s3], .int .i64 z] w fun e w' => e = .returned (.int .i64 z') ∧ Below w.heap.size w w') := fun w => by
        rw [hz']; exact szConn_any a b c d s1 s2 s3 z w m1 m2 m3 hz0 (by omega)
      have HN : Hid (0 ≤ z' → (0 ≤ z' ∧ z' ≤ left - (l.length : Int)) ∧ cnIn (l.take (k + 1)) left) := fun h => by
        rw [hz'] at h
        obtain ⟨e1, e2, e3, e4⟩ := szCn_le h
        refine ⟨⟨by rw [hz']; exact h, by omega⟩, fun y hy => ?_⟩
        rw [List.take_succ_eq_append_getElem hlt, ← hap, List.mem_append] at hy
        rcases hy with hy | hy
        · exact HI.out y hy
        · simp at hy
          subst hy
          simp only at e1 e2 e3 ⊢
          omega
      have hbs := hb.size
      clear hrow hap hh hc HI hz'
      by_cases hneg : z' < 0
      · go_wp2_with (go_at_call 107; refine (HC.out _).mono ?_; rintro e' w2 ⟨rfl, b2⟩)
        go_ret
        exact ⟨-1, rfl, Or.inl rfl, hb.trans (b2.mono (by omega))⟩
      · go_wp2_with (go_at_call 107; refine (HC.out _).mono ?_; rintro e' w2 ⟨rfl, b2⟩)
        go_roundw
        case rel => exact ⟨k + 1, z', by omega, by go_num, rfl, (HN.out (by omega)).1, (HN.out (by omega)).2, hb.trans (b2.mono (by omega))⟩
        case measure => simp [intOf]; omega
    · have hkn : k = l.length := by omega
      subst hkn
      have HF : Hid (cnIn l left) := by have := HI.out; rwa [List.take_of_length_le (Nat.le_refl _)] at this
      clear HI
      go_wp2
      go_ret
      exact ⟨z, rfl, Or.inr ⟨hz0, by omega, by omega, HF.out⟩, hb⟩

set_option maxRecDepth 100000 in
set_option maxHeartbeats 1600000 in
theorem toConn_any (ia ip oa op : Int) (kn he ne : ByteArray) (w : World) :
    Calls Tryz.prog 115 #[.agg #[.int .i64 ia, .int .i64 ip, .int .i64 oa, .int .i64 op, .string kn, .string he, .string ne]] w fun e w' => e = .returned (.agg #[.int .i64 ia, .int .i64 ip, .int .i64 oa, .int .i64 op, .string kn, .string he, .string ne]) ∧ Below w.heap.size w w' := by
  go_enter Tryz.func115, Tryz.ntmps115
  go_wp2_with fail
  (go_at_call 28; refine (toEnd_any ia ip _).mono ?_; rintro e w1 ⟨rfl, b1⟩; obtain ⟨c1, f1⟩ := bcell b1)
  have s1 : w.heap.size < w1.heap.size := by have := b1.size; simp at this; omega
  have s2 : w.heap.size + 1 < w1.heap.size := by have := b1.size; simp at this; omega
  have s3 : w.heap.size + 1 + 1 < w1.heap.size := by have := b1.size; simp at this; omega
  go_wp2_with fail
  (go_at_call 28; refine (toEnd_any oa op _).mono ?_; rintro e w2 ⟨rfl, b2⟩; obtain ⟨c2, f2⟩ := bcell b2)
  have t1 : w.heap.size < w2.heap.size := by have := b2.size; simp at this; omega
  have t2 : w.heap.size + 1 < w2.heap.size := by have := b2.size; simp at this; omega
  have t3 : w.heap.size + 1 + 1 < w2.heap.size := by have := b2.size; simp at this; omega
  simp at c2 f2
  go_wp2_with fail
  obtain ⟨q0, q1, q2, q3, q4, q5, q6⟩ := set_seven (w := (((((w2.setCell ⟨w.heap.size + 1 + 1, 2, none⟩ (.int .i64 oa)).setCell ⟨w.heap.size + 1 + 1, 3, none⟩ (.int .i64 op)).setCell ⟨w.heap.size + 1 + 1, 4, none⟩ (.string kn)).setCell ⟨w.heap.size + 1 + 1, 5, none⟩ (.string he)).setCell ⟨w.heap.size + 1 + 1, 6, none⟩ (.string ne))) (b := w.heap.size + 1) (.int .i64 ia) (.int .i64 ip) (.int .i64 oa) (.int .i64 op) (.string kn) (.string he) (.string ne) (x0 := .int .i64 0) (x1 := .int .i64 0) (x2 := .int .i64 0) (x3 := .int .i64 0) (x4 := .string ⟨#[]⟩) (x5 := .string ⟨#[]⟩) (x6 := .string ⟨#[]⟩)
    (by simp [c2, s2, c1, go_sem]) (by simp [c2, s2, c1, go_sem]) (by simp [c2, s2, c1, go_sem]) (by simp [c2, s2, c1, go_sem]) (by simp [c2, s2, c1, go_sem]) (by simp [c2, s2, c1, go_sem]) (by simp [c2, s2, c1, go_sem])
  refine bodyPost_ret (v := .agg #[.int .i64 ia, .int .i64 ip, .int .i64 oa, .int .i64 op, .string kn, .string he, .string ne]) (by simp [results, Tryz.results115, go_sem, q0, q1, q2, q3, q4, q5, q6]) rfl ⟨rfl, ?_⟩
  have B1 : Below w.heap.size w w1 := ((((Below.refl _ _).alloc (Nat.le_refl _) _).alloc (by simp) _).alloc (by simp; omega) _).trans (b1.mono (by simp; omega))
  have B2 : Below w.heap.size w w2 := ((B1.setCell (by simp; omega) _).setCell (by simp; omega) _).trans (b2.mono (by simp; omega))
  exact ((((((((((((B2.setCell (by simp; omega) _).setCell (by simp; omega) _).setCell (by simp; omega) _).setCell (by simp; omega) _).setCell (by simp; omega) _).setCell (by simp) _).setCell (by simp) _).setCell (by simp) _).setCell (by simp) _).setCell (by simp) _).setCell (by simp) _).setCell (by simp) _)

set_option maxRecDepth 100000 in
set_option maxHeartbeats 1600000 in
theorem toConnsArg (v : Value) (l : List Cn) (w : World) (hn : l.length ≤ 4194304) (ht : ArgCn w v l) :
    Calls Tryz.prog 59 #[v] w fun e w' => ∃ g, e = .returned (.slice (some ⟨g, 0, none⟩) l.length l.length) ∧ OwnCn w' w.heap.size (.slice (some ⟨g, 0, none⟩) l.length l.length) l ∧ Below w.heap.size w w' := by
  obtain ⟨ad, cap, rfl, hcap, hr⟩ := ht
  obtain ⟨i0, hi, hz0, hz1, hz2⟩ := info_parts infoCn
  have HR := Lib.hid hr
  clear hr
  go_enter Tryz.func59, Tryz.ntmps59
  go_wp2_with (at_make; refine wpList_make_full _ rfl (.tmp 6) (.tmp 6) 28 rfl w.heap.size 87 i0 (.agg #[.int .i64 0, .int .i64 0, .int .i64 0, .int .i64 0, .string ⟨#[]⟩, .string ⟨#[]⟩, .string ⟨#[]⟩]) 7 (by rfl) hi hz0 hz1 .i64 .i64 (l.length : Int) (l.length : Int) l.length (by rfl) (by rfl) rfl rfl (by rw [hz2]; omega) (by unfold maxLen; omega) (Nat.le_refl _) ?_; intro w1 hown hgrow)
  obtain ⟨L0, hL0, hL1, hL2⟩ := own_blk hown
  have R1 : Hid (∃ r, Blk w1 w.heap.size 87 (flatC cnC (l.take 0) ++ r) ∧ r.length = (l.length - 0) * 7) := ⟨L0, by simpa [flatC] using hL0, by simpa using hL1⟩
  have B1 : Hid (Below w.heap.size w w1) := (Below.refl _ _).grown hgrow (Nat.le_refl _) (fun k hk => by cases hk)
  clear hown hgrow hL0 hL1 hL2
  go_loopw [4] (fun i wr => ∃ k : Nat, k ≤ l.length ∧ i = .int .i64 k ∧ Hid (∃ r, Blk wr w.heap.size 87 (flatC cnC (l.take k) ++ r) ∧ r.length = (l.length - k) * 7) ∧ Below w.heap.size w wr) (fun i _ => l.length - (intOf i).toNat)
  case atStart => exact ⟨0, Nat.zero_le _, rfl, R1, B1.out⟩
  case round =>
    obtain ⟨k, hk, rfl, HE, hb⟩ := hrel
    by_cases hlt : k < l.length
    · obtain ⟨x, rfl, hx, hrow⟩ := HR.out (by omega)
      obtain ⟨⟨a, b, c, d, s1, s2, s3⟩, hap⟩ : ∃ x, x = l[k] := ⟨_, rfl⟩
      have hh := hrow k hlt
      rw [← hap] at hh
      have hc : ∀ j u, (cnC ⟨a, b, c, d, s1, s2, s3⟩)[j]? = some u → wr.cell? (x.add (k * 7 + j)) = some u := fun j u hu => (hb.cell (p := x.add (k * 7 + j)) (by rw [add_blk]; exact hx)).trans (hh j u hu)
      have c0 : wr.cell? (x.add (k * 7)) = some (.int .i64 a) := hc 0 _ rfl
      have c1 : wr.cell? ⟨(x.add (k * 7)).block, (x.add (k * 7)).off + 1, none⟩ = some (.int .i64 b) := by rw [← add_lit _ _ _ (by decide)]; exact hc 1 _ rfl
      have c2 : wr.cell? ⟨(x.add (k * 7)).block, (x.add (k * 7)).off + 2, none⟩ = some (.int .i64 c) := by rw [← add_lit _ _ _ (by decide)]; exact hc 2 _ rfl
      have c3 : wr.cell? ⟨(x.add (k * 7)).block, (x.add (k * 7)).off + 3, none⟩ = some (.int .i64 d) := by rw [← add_lit _ _ _ (by decide)]; exact hc 3 _ rfl
      have c4 : wr.cell? ⟨(x.add (k * 7)).block, (x.add (k * 7)).off + 4, none⟩ = some (.string s1) := by rw [← add_lit _ _ _ (by decide)]; exact hc 4 _ rfl
      have c5 : wr.cell? ⟨(x.add (k * 7)).block, (x.add (k * 7)).off + 5, none⟩ = some (.string s2) := by rw [← add_lit _ _ _ (by decide)]; exact hc 5 _ rfl
      have c6 : wr.cell? ⟨(x.add (k * 7)).block, (x.add (k * 7)).off + 6, none⟩ = some (.string s3) := by rw [← add_lit _ _ _ (by decide)]; exact hc 6 _ rfl
      have HA := Lib.hid hap
      have hk2 : (k : Int) ≤ (cap : Int) := by have := hcap.1; omega
      have hk3 : (k : Int) < (l.length : Int) := by omega
      obtain ⟨r, hr1, hr2⟩ := HE.out
      obtain ⟨y0, y1, y2, y3, y4, y5, y6, r', rfl, hr3⟩ := seven_of (l := r) (n := (l.length - (k + 1)) * 7) (by rw [hr2]; omega)
      have hml : (flatC cnC (l.take k)).length = k * 7 := by rw [flatC_len cnC_len, List.length_take, Nat.min_eq_left hk]
      have HB := Lib.hid hr1
      have HL := Lib.hid hml
      have hgl := hr1.lt
      clear hrow hap hh hc hr1 hr2 HE hml
      have HC : Hid (∀ w2, Below wr.heap.size wr w2 → ∀ (j : Nat) u, (y0 :: y1 :: y2 :: y3 :: y4 :: y5 :: y6 :: r')[j]? = some u → w2.cell? ⟨w.heap.size, k * 7 + j, none⟩ = some u ∧ w2.frozen? ⟨w.heap.size, k * 7 + j, none⟩ = false) := fun w2 b2 j u hu =>
        (HB.out.below b2).cell (k * 7 + j) u (by rw [List.getElem?_append_right (by rw [HL.out]; omega), HL.out, show k * 7 + j - k * 7 = j by omega]; exact hu)
      go_wp2_with (go_at_call 115; refine (toConn_any a b c d s1 s2 s3 _).mono ?_; rintro e' w2 ⟨rfl, b2⟩; have q0 := (HC.out w2 b2 0 y0 rfl).1; have q1 := (HC.out w2 b2 1 y1 rfl).1; have q2 := (HC.out w2 b2 2 y2 rfl).1; have q3 := (HC.out w2 b2 3 y3 rfl).1; have q4 := (HC.out w2 b2 4 y4 rfl).1; have q5 := (HC.out w2 b2 5 y5 rfl).1; have q6 := (HC.out w2 b2 6 y6 rfl).1; have f0 := (HC.out w2 b2 0 y0 rfl).2; have f1 := (HC.out w2 b2 1 y1 rfl).2; have f2 := (HC.out w2 b2 2 y2 rfl).2; have f3 := (HC.out w2 b2 3 y3 rfl).2; have f4 := (HC.out w2 b2 4 y4 rfl).2; have f5 := (HC.out w2 b2 5 y5 rfl).2; have f6 := (HC.out w2 b2 6 y6 rfl).2; simp only [Nat.add_zero] at q0 f0)
      go_roundw
      case rel =>
        refine ⟨k + 1, by omega, by go_num, ⟨r', ?_, hr3⟩, ?_⟩
        · have hs := ((((((((HB.out.below b2).set (k * 7) (.int .i64 a)).set (k * 7 + 1) (.int .i64 b)).set (k * 7 + 2) (.int .i64 c)).set (k * 7 + 3) (.int .i64 d)).set (k * 7 + 4) (.string s1)).set (k * 7 + 5) (.string s2)).set (k * 7 + 6) (.string s3))
          rw [set7 _ _ _ _ _ _ _ _ _ _ _ _ _ _ _ _ _ HL.out] at hs
          have he : flatC cnC (l.take (k + 1)) = flatC cnC (l.take k) ++ [.int .i64 a, .int .i64 b, .int .i64 c, .int .i64 d, .string s1, .string s2, .string s3] := by
            rw [List.take_succ_eq_append_getElem hlt, flatC_app, ← HA.out]
            simp [flatC, cnC]
          rw [he]
          exact hs
        · exact (((((((hb.trans (b2.mono (by omega))).setCell (by simp) _).setCell (by simp) _).setCell (by simp) _).setCell (by simp) _).setCell (by simp) _).setCell (by simp) _).setCell (by simp) _
      case measure => simp [intOf]; omega
    · have hkn : k = l.length := by omega
      subst hkn
      have HO : Hid (OwnCn wr w.heap.size (.slice (some ⟨w.heap.size, 0, none⟩) l.length l.length) l) := by
        obtain ⟨r, hr1, hr2⟩ := HE.out
        have hr0 : r = [] := List.eq_nil_of_length_eq_zero (by rw [hr2]; simp)
        subst hr0
        rw [List.append_nil, List.take_of_length_le (Nat.le_refl _)] at hr1
        exact hr1.own (Nat.le_refl _) (flatC_len cnC_len l) (by unfold maxLen; omega)
      clear HE
      go_wp2
      go_ret
      exact ⟨_, rfl, HO.out, hb⟩

end Go.Proofs.YtglpijjkihpeeaaGreatDoor

/- An argument that is a rule, or rules, as the frame of a law hands it in. No condition. -/
namespace Go.Proofs.YtglpijjkihpeeaaGreatDoor
open Go.ChangeShapes Go.WideShapes Go.ChangeAt Go.RowKit Go.Deep

theorem array7r {α : Type} {cs : Array α} (h : cs.size = 7) : ∃ c0 c1 c2 c3 c4 c5 c6, cs = #[c0, c1, c2, c3, c4, c5, c6] := by
  obtain ⟨l⟩ := cs
  match l, h with
  | [c0, c1, c2, c3, c4, c5, c6], _ => exact ⟨c0, c1, c2, c3, c4, c5, c6, rfl⟩
theorem cellsRulL : Tryz.prog.cellsOf 119 = 7 := by kernel_rfl
theorem cellsIntR : Tryz.prog.cellsOf 3 = 1 := by kernel_rfl
theorem cellsBoolR : Tryz.prog.cellsOf 4 = 1 := by kernel_rfl

theorem rul_of {H : Type} {enc : TypeId × Value → H} {W : World} {n : Nat} {c0 c1 c2 c3 c4 c5 c6 : Value} {y : DataW H × List MemPlace} (h : DataW.trod enc Tryz.prog W 0 (fun _ => true) true n 119 [c0, c1, c2, c3, c4, c5, c6] = some y) :
    ∃ r : Rl, [c0, c1, c2, c3, c4, c5, c6] = rlC r ∧ (Lit.int .i64 r.i).wf = true ∧ (Lit.int .i64 r.it).wf = true ∧ (Lit.int .i64 r.o).wf = true ∧ (Lit.int .i64 r.ot).wf = true ∧ (Lit.int .i64 r.p).wf = true ∧ (Lit.int .i64 r.pt).wf = true := by
  obtain ⟨xs, n, _, _, _, hlen, hg⟩ := DataW.trod_struct Tryz.underlying119 h
  match xs, hlen with
  | [y0, y1, y2, y3, y4, y5, y6], _ =>
    have g0 : DataW.trod enc Tryz.prog W 0 (fun _ => true) true n 4 [c0] = some y0 := by simpa [cellsBoolR] using hg 0 _ rfl
    have g1 : DataW.trod enc Tryz.prog W 0 (fun _ => true) true n 3 [c1] = some y1 := by simpa [cellsIntR] using hg 1 _ rfl
    have g2 : DataW.trod enc Tryz.prog W 0 (fun _ => true) true n 3 [c2] = some y2 := by simpa [cellsIntR] using hg 2 _ rfl
    have g3 : DataW.trod enc Tryz.prog W 0 (fun _ => true) true n 3 [c3] = some y3 := by simpa [cellsIntR] using hg 3 _ rfl
    have g4 : DataW.trod enc Tryz.prog W 0 (fun _ => true) true n 3 [c4] = some y4 := by simpa [cellsIntR] using hg 4 _ rfl
    have g5 : DataW.trod enc Tryz.prog W 0 (fun _ => true) true n 3 [c5] = some y5 := by simpa [cellsIntR] using hg 5 _ rfl
    have g6 : DataW.trod enc Tryz.prog W 0 (fun _ => true) true n 3 [c6] = some y6 := by simpa [cellsIntR] using hg 6 _ rfl
    obtain ⟨al, e0, _⟩ := DataW.trod_bool Tryz.underlying4 g0
    obtain ⟨a, e1, _, w1⟩ := DataW.trod_int Tryz.underlying3 g1
    obtain ⟨b, e2, _, w2⟩ := DataW.trod_int Tryz.underlying3 g2
    obtain ⟨c, e3, _, w3⟩ := DataW.trod_int Tryz.underlying3 g3
    obtain ⟨d, e4, _, w4⟩ := DataW.trod_int Tryz.underlying3 g4
    obtain ⟨e, e5, _, w5⟩ := DataW.trod_int Tryz.underlying3 g5
    obtain ⟨f, e6, _, w6⟩ := DataW.trod_int Tryz.underlying3 g6
    simp at e0 e1 e2 e3 e4 e5 e6
    subst e0 e1 e2 e3 e4 e5 e6
    exact ⟨⟨al, a, b, c, d, e, f⟩, rfl, w1, w2, w3, w4, w5, w6⟩

set_option maxRecDepth 100000 in
theorem rul_in {H : Type} {enc : TypeId × Value → H} {W : World} {base : Nat} {v : Value} {d : DataW H} {p : List MemPlace} (hv : Value.okWide Tryz.prog W .any base 119 v)
    (h : DataW.Trod enc Tryz.prog W 0 (fun _ => true) true 119 v d p) : ∃ r : Rl, v = .agg #[.bool r.al, .int .i64 r.i, .int .i64 r.it, .int .i64 r.o, .int .i64 r.ot, .int .i64 r.p, .int .i64 r.pt] ∧ (Lit.int .i64 r.i).wf = true ∧ (Lit.int .i64 r.it).wf = true ∧ (Lit.int .i64 r.o).wf = true ∧ (Lit.int .i64 r.ot).wf = true ∧ (Lit.int .i64 r.p).wf = true ∧ (Lit.int .i64 r.pt).wf = true := by
  obtain ⟨cs, rfl, hsz⟩ := okWide_struct Tryz.underlying119 hv
  obtain ⟨c0, c1, c2, c3, c4, c5, c6, rfl⟩ := array7r (hsz.trans cellsRulL)
  obtain ⟨fuel, hf⟩ := h
  have hf' : DataW.trod enc Tryz.prog W 0 (fun _ => true) true fuel 119 [c0, c1, c2, c3, c4, c5, c6] = some (d, p) := by simpa [Value.cells] using hf
  obtain ⟨r, hr, hw⟩ := rul_of hf'
  simp only [rlC, List.cons.injEq, and_true] at hr
  obtain ⟨rfl, rfl, rfl, rfl, rfl, rfl, rfl⟩ := hr
  exact ⟨r, rfl, hw⟩

/-- Rules that came in lie in memory, at any address. -/
theorem rulsArg {H : Type} {enc : TypeId × Value → H} {W : World} {a : Option Addr} {len cap : Nat} {d : DataW H} {p : List MemPlace} (h : DataW.Trod enc Tryz.prog W 0 (fun _ => true) true 40 (.slice a len cap) d p) : ∃ l : List Rl, ArgRl W (.slice a len cap) l ∧ l.length ≤ 9223372036854775807 := by
  obtain ⟨fuel, hf⟩ := h
  rcases open_slice Tryz.underlying40 hf with ⟨hcs, _⟩ | ⟨x, ln, cp, m, n, D, Pl, hcs, _, hl, hm, hmm, _, hcell⟩
  · simp [Value.cells] at hcs
    obtain ⟨rfl, rfl, rfl⟩ := hcs
    exact ⟨[], ⟨none, 0, rfl, ⟨Nat.le_refl _, fun _ => rfl⟩, fun h => by simp at h⟩, by simp⟩
  · simp [Value.cells] at hcs
    obtain ⟨rfl, rfl, rfl⟩ := hcs
    have hm2 : m = cap := by simpa using hmm
    have each : ∀ i, i < len → ∃ r : Rl, ∀ j u, (rlC r)[j]? = some u → W.cell? (x.add (i * 7 + j)) = some u := by
      intro i hi
      obtain ⟨cs', h1, h2⟩ := hcell i (by omega)
      rw [cellsRulL] at h1
      obtain ⟨_, hlen, hcc⟩ := World.cells?_some h1
      match cs', hlen with
      | [c0, c1, c2, c3, c4, c5, c6], _ =>
        obtain ⟨r, hr, _⟩ := rul_of h2
        refine ⟨r, fun j u hu => ?_⟩
        have hj : j < 7 := by
          have := (List.getElem?_eq_some_iff.1 hu).1
          rwa [rlC_len] at this
        have := hcc j hj
        rw [add_add, hr, hu] at this
        exact this
    have hl2 : ∀ n, n ≤ len → ∃ l : List Rl, l.length = n ∧ ∀ i (hi : i < l.length) j u, (rlC l[i])[j]? = some u → W.cell? (x.add (i * 7 + j)) = some u := by
      intro n
      induction n with
      | zero => intro _; exact ⟨[], rfl, fun i hi => by simp at hi⟩
      | succ n ih =>
        intro hn
        obtain ⟨l, h1, h2⟩ := ih (by omega)
        obtain ⟨b, hb⟩ := each n (by omega)
        refine ⟨l ++ [b], by simp [h1], fun i hi => ?_⟩
        by_cases e : i < l.length
        · rw [List.getElem_append_left e]; exact h2 i e
        · simp at hi
          have e2 : i = l.length := by omega
          subst e2
          rw [List.getElem_append_right (Nat.le_refl _)]
          simp only [Nat.sub_self, List.getElem_cons_zero]
          rw [h1]; exact hb
    obtain ⟨l, h1, h2⟩ := hl2 len (Nat.le_refl _)
    subst h1
    refine ⟨l, ⟨some x, cap, rfl, ⟨hl, by simp⟩, fun hn => ⟨x, rfl, ?_, h2⟩⟩, Nat.le_trans hl (by unfold maxLen at hm; exact hm)⟩
    have := World.block_lt_of_cell? W _ (h2 0 hn 0 _ rfl)
    rwa [add_blk] at this

end Go.Proofs.YtglpijjkihpeeaaGreatDoor

/- An argument's table, wherever it lies: how its ends become the program's. Condition: at most 2^22 ends. -/
namespace Go.Proofs.YtglpijjkihpeeaaGreatDoor
open Go.RowKit Go.Sort

theorem Addr.add_block' (a : Addr) (i : Nat) : (a.add i).block = a.block := by unfold Addr.add; split <;> rfl
theorem add_add' (a : Addr) (i j : Nat) : (a.add i).add j = a.add (i + j) := by
  unfold Addr.add; split <;> split <;> simp_all <;> omega
theorem add_one' (a : Addr) : a.add 1 = ⟨a.block, a.off + 1, none⟩ := rfl
/-- A slice of ends lies in the world, at any address. -/
def ArgTab (w : World) (v : Value) (es : List (Int × Int)) : Prop := ∃ a cap, v = .slice a es.length cap ∧ (es.length ≤ cap ∧ (a = none → cap = 0)) ∧ (0 < es.length → ∃ x, a = some x ∧ x.block < w.heap.size ∧ ∀ i (hi : i < es.length), w.cell? (x.add (i * 2)) = some (.int .i64 es[i].1) ∧ w.cell? (x.add (i * 2 + 1)) = some (.int .i64 es[i].2))
theorem ArgTab.below {w w' : World} {v : Value} {es : List (Int × Int)} (h : ArgTab w v es) (hb : Below w.heap.size w w') : ArgTab w' v es := by
  obtain ⟨a, cap, rfl, hc, hr⟩ := h
  refine ⟨a, cap, rfl, hc, fun h => ?_⟩
  obtain ⟨x, rfl, hx, hrow⟩ := hr h
  exact ⟨x, rfl, Nat.lt_of_lt_of_le hx hb.size, fun i hi => by
    rw [hb.cell (p := x.add (i * 2)) (by rw [Addr.add_block']; exact hx), hb.cell (p := x.add (i * 2 + 1)) (by rw [Addr.add_block']; exact hx)]; exact hrow i hi⟩

set_option maxRecDepth 100000 in
set_option maxHeartbeats 800000 in
theorem toEndsArg (v : Value) (es : List (Int × Int)) (w : World) (hn : es.length ≤ 4194304) (ht : ArgTab w v es) :
    Calls Tryz.prog 114 #[v] w fun e w' => ∃ u, e = .returned u ∧ TabRoom w' w.heap.size u es ∧ Below w.heap.size w w' := by
  obtain ⟨ad, cap, rfl, hcap, hr⟩ := ht
  obtain ⟨i0, hi, hz0, hz1, hz2⟩ := info_parts infoEnd
  have HR := Lib.hid hr
  clear hr
  go_enter Tryz.func114, Tryz.ntmps114
  go_wp2_with (at_make; refine wpList_make_full _ rfl (.tmp 6) (.tmp 6) 25 rfl w.heap.size 53 i0 (.agg #[.int .i64 0, .int .i64 0]) 2 (by rfl) hi hz0 hz1 .i64 .i64 (es.length : Int) (es.length : Int) es.length (by rfl) (by rfl) rfl rfl (by rw [hz2]; omega) (by unfold maxLen; omega) (Nat.le_refl _) ?_; intro w1 hown hgrow)
  have R1 : Hid (Room w1 w.heap.size (es.length * 2) ∧ w.heap.size ≤ w.heap.size ∧ w.heap.size < w1.heap.size) := own_room hown
  have B1 : Hid (Below w.heap.size w w1) := (Below.refl _ _).grown hgrow (Nat.le_refl _) (fun k hk => by cases hk)
  clear hown hgrow
  go_loopw [4] (fun i wr => ∃ k : Nat, k ≤ es.length ∧ i = .int .i64 k ∧ EndsAt wr w.heap.size (es.take k) ∧ Room wr w.heap.size (es.length * 2) ∧ Below w.heap.size w wr ∧ w.heap.size < wr.heap.size) (fun i _ => es.length - (intOf i).toNat)
  case atStart => exact ⟨0, Nat.zero_le _, rfl, fun i hi => by simp at hi, R1.out.1, B1.out, R1.out.2.2⟩
  case round =>
    obtain ⟨k, hk, rfl, he, hro, hb, hsz⟩ := hrel
    have HE := Lib.hid he
    have HO := Lib.hid hro
    clear he hro
    by_cases hlt : k < es.length
    · obtain ⟨x, rfl, hx, hrow⟩ := HR.out (by omega)
      obtain ⟨r0, r1⟩ := hrow k hlt
      rw [← hb.cell (p := x.add (k * 2)) (by rw [Addr.add_block']; exact hx)] at r0
      rw [← hb.cell (p := x.add (k * 2 + 1)) (by rw [Addr.add_block']; exact hx)] at r1
      rw [← add_add', add_one'] at r1
      obtain ⟨⟨a, p⟩, hap⟩ : ∃ x, x = es[k] := ⟨_, rfl⟩
      rw [← hap] at r0 r1
      simp only at r0 r1
      have HA := Lib.hid hap
      have hk2 : (k : Int) ≤ (cap : Int) := by have := hcap.1; omega
      clear hrow hap
      go_wp2_with (go_at_call 28; refine (toEnd_any a p _).mono ?_; rintro e w2 ⟨rfl, b2⟩; have hr2 := HO.out.below b2 hsz; obtain ⟨x0, hx0⟩ := (hr2 (k * 2) (by omega)).1; have f0 := (hr2 (k * 2) (by omega)).2; obtain ⟨x1, hx1⟩ := (hr2 (k * 2 + 1) (by omega)).1; have f1 := (hr2 (k * 2 + 1) (by omega)).2)
      go_roundw
      case rel =>
        refine ⟨k + 1, by omega, by go_num, EndsAt.push (es := es) (m := es.length * 2) (by simp; omega) (by rw [List.take_take, Nat.min_eq_left (by omega)]) hk (fun h => by rw [HA.out]; simp) (HE.out.below b2 hsz) hr2 (by omega), (hr2.set (by omega) _).set (by omega) _, ?_, ?_⟩
        · exact ((hb.trans (b2.mono (by omega))).setCell (by simp) _).setCell (by simp) _
        · have := b2.size; simp; omega
      case measure => simp [intOf]; omega
    · have hkn : k = es.length := by omega
      subst hkn
      go_wp2
      go_ret
      refine ⟨_, rfl, ⟨w.heap.size, es.length, rfl, Nat.le_refl _, Nat.le_refl _, hsz, by simpa using HE.out, HO.out⟩, hb⟩

set_option maxRecDepth 100000 in
set_option maxHeartbeats 800000 in
theorem toTabArg (v : Value) (es : List (Int × Int)) (w : World) (hn : es.length ≤ 4194304) (ht : ArgTab w v es) :
    Calls Tryz.prog 58 #[.agg #[v]] w fun e w' => ∃ u, e = .returned (.agg #[u]) ∧ TabRoom w' w.heap.size u es ∧ Below w.heap.size w w' := by
  have HT := Lib.hid ht
  obtain ⟨ad, cap, rfl, hcap, hr⟩ := ht
  clear hr
  go_enter Tryz.func58, Tryz.ntmps58
  go_wp2_with (go_at_call 114; refine (toEndsArg _ es _ hn (HT.out.below ((((Below.refl _ _).alloc (Nat.le_refl _) _).alloc (by simp) _).alloc (by simp; omega) _))).mono ?_; rintro e w1 ⟨u, rfl, hu, b1⟩; obtain ⟨cA, cB, cC, b01, z1⟩ := cell_three b1; have t0 := (cA 0).1; have r0 := (cB 0).1; have g0 := (cB 0).2; have o0 := (cC 0).1; have p0 := (cC 0).2; simp at t0 r0 o0; obtain ⟨gu, cu, rfl, hu'⟩ : ∃ g c, u = .slice (some ⟨g, 0, none⟩) es.length c ∧ TabRoom w1 (w.heap.size + 3) u es := (by obtain ⟨g, c, q, hh⟩ := hu; exact ⟨g, c, q, TabRoom.mono ⟨g, c, q, hh⟩ (by simp)⟩); have HU := Lib.hid hu'; clear hu hu' cA cB cC)
  have q0 : (w1.setCell ⟨w.heap.size + 1 + 1, 0, none⟩ (.slice (some ⟨gu, 0, none⟩) es.length cu)).cell? ⟨w.heap.size + 1, 0, none⟩ = some (.slice none 0 0) := by
    rw [World.cell?_setCell_far _ ⟨w.heap.size + 1 + 1, 0, none⟩ ⟨w.heap.size + 1, 0, none⟩ _ (by show w.heap.size + 1 + 1 ≠ w.heap.size + 1; omega)]; exact r0
  refine bodyPost_ret (v := .agg #[.slice (some ⟨gu, 0, none⟩) es.length cu]) (by simp [results, Tryz.results58, go_sem, World.cell?_setCell_same _ _ _ q0]) rfl ⟨_, rfl, ?_, ?_⟩
  · exact ((HU.out.setCell (a := ⟨w.heap.size + 1 + 1, 0, none⟩) (by simp) _).setCell (a := ⟨w.heap.size + 1, 0, none⟩) (by simp) _).mono (by omega)
  · exact (b01.setCell (by simp; omega) _).setCell (by simp) _

theorem lawSzSArg (ad : Option Addr) (n cap : Nat) (left : Int) (w : World) (hn : n ≤ 9223372036854775807) (h0 : 0 ≤ left) (h1 : left ≤ 4194304) :
    Calls Tryz.prog 106 #[.slice ad n cap, .int .i64 left] w fun e w' => e = .returned (.int .i64 (if left < (n : Int) then -1 else left - n)) ∧ w = w' := by
  by_cases h : left < (n : Int)
  all_goals
    go_enter Tryz.func106, Tryz.ntmps106
    go_wp2
    go_ret
    exact ⟨ret_int (by first | rfl | (rw [if_pos h]; rfl) | (rw [if_neg (by omega)]) | (rw [if_neg (by omega)]; rfl)), rfl⟩

theorem lawSzArg (v : Value) (es : List (Int × Int)) (left : Int) (w : World) (hn : es.length ≤ 9223372036854775807) (h0 : 0 ≤ left) (h1 : left ≤ 4194304) (ht : ArgTab w v es) :
    Calls Tryz.prog 49 #[.agg #[v], .int .i64 left] w fun e w' => e = .returned (.int .i64 (if left < (es.length : Int) then -1 else left - es.length)) ∧ Below w.heap.size w w' := by
  obtain ⟨ad, cap, rfl, _, _⟩ := ht
  by_cases h : left < (es.length : Int)
  · have hc : ∀ w, Calls Tryz.prog 106 #[.slice ad es.length cap, .int .i64 left] w fun e w' => e = .returned (.int .i64 (-1)) ∧ w = w' := fun w => by
      have := lawSzSArg ad es.length cap left w hn h0 h1
      rwa [if_pos h] at this
    have HC := Lib.hid hc
    clear hc
    rw [if_pos h]
    clear h
    go_enter Tryz.func49, Tryz.ntmps49
    go_wp2_with (go_at_call 106; refine (HC.out _).mono ?_; rintro e w' ⟨rfl, rfl⟩)
    go_ret
    exact ⟨rfl, (Below.refl _ _).alloc (Nat.le_refl _) _⟩
  · obtain ⟨q, hq⟩ : ∃ q : Int, q = left - es.length := ⟨_, rfl⟩
    have hc : ∀ w, Calls Tryz.prog 106 #[.slice ad es.length cap, .int .i64 left] w fun e w' => e = .returned (.int .i64 q) ∧ w = w' := fun w => by
      have := lawSzSArg ad es.length cap left w hn h0 h1
      rwa [if_neg h, ← hq] at this
    have HC := Lib.hid hc
    have h0q : 0 ≤ q := by omega
    clear hc
    rw [if_neg h, ← hq]
    clear h hq
    go_enter Tryz.func49, Tryz.ntmps49
    go_wp2_with (go_at_call 106; refine (HC.out _).mono ?_; rintro e w' ⟨rfl, rfl⟩)
    go_ret
    exact ⟨rfl, (Below.refl _ _).alloc (Nat.le_refl _) _⟩

end Go.Proofs.YtglpijjkihpeeaaGreatDoor

/- An argument that is a table of ends, as the frame of a law hands it in: its ends lie in the machine's memory, at any address. No condition. -/
namespace Go.Proofs.YtglpijjkihpeeaaGreatDoor
open Go.ChangeShapes Go.WideShapes Go.ChangeAt Go.RowKit Go.Deep

theorem array1 {α : Type} {cs : Array α} (h : cs.size = 1) : ∃ c0, cs = #[c0] := by
  obtain ⟨l⟩ := cs
  match l, h with
  | [c0], _ => exact ⟨c0, rfl⟩

theorem cellsTabL : Tryz.prog.cellsOf 43 = 1 := by kernel_rfl
theorem cellsRowL : Tryz.prog.cellsOf 41 = 1 := by kernel_rfl
theorem cellsEndL : Tryz.prog.cellsOf 48 = 2 := by kernel_rfl
theorem cellsIntL : Tryz.prog.cellsOf 3 = 1 := by kernel_rfl
set_option maxRecDepth 100000 in
theorem tab_in {H : Type} {enc : TypeId × Value → H} {W : World} {base : Nat} {v : Value} {d : DataW H} {p : List MemPlace} (hv : Value.okWide Tryz.prog W .any base 43 v)
    (h : DataW.Trod enc Tryz.prog W 0 (fun _ => true) true 43 v d p) : ∃ (u : Value) (es : List (Int × Int)), v = .agg #[u] ∧ ArgTab W u es ∧ es.length ≤ 9223372036854775807 ∧ wfE es := by
  obtain ⟨cs, rfl, hsz⟩ := okWide_struct Tryz.underlying43 hv
  obtain ⟨c0, rfl⟩ := array1 (hsz.trans cellsTabL)
  obtain ⟨fuel, hf⟩ := h
  obtain ⟨y0, n, _, _, h0⟩ := trod_struct1 Tryz.underlying43 hf
  have h1 : DataW.trod enc Tryz.prog W 0 (fun _ => true) true n 41 [c0] = some y0 := by
    simpa [Value.cells, cellsRowL] using h0
  rcases open_slice_pairs Tryz.underlying41 Tryz.underlying48 cellsEndL rfl rfl cellsIntL cellsIntL h1 with ⟨hcs, _⟩ | ⟨a, len, cap, m, n', V0, V1, D0, D1, P0, P1, hcs, _, hl, hm, hmm, _, hcell⟩
  · simp at hcs
    subst hcs
    exact ⟨_, [], rfl, ⟨none, 0, rfl, ⟨by simp, fun _ => rfl⟩, fun h => by simp at h⟩, by simp, fun e he => by cases he⟩
  · simp at hcs
    subst hcs
    have hm2 : m = cap := by simpa using hmm
    refine ⟨_, (List.range len).map fun i => (intOf (V0 i), intOf (V1 i)), rfl, ⟨some a, cap, by simp, ⟨by simpa using hl, by simp⟩, fun hpos => ?_⟩, by have hm' : cap ≤ 9223372036854775807 := hm; simpa using Nat.le_trans hl hm', fun e he => ?_⟩
    rotate_left
    · obtain ⟨i, hi, rfl⟩ := List.mem_map.1 he
      have hi' : i < len := List.mem_range.1 hi
      obtain ⟨k0, k1, t0, t1⟩ := hcell i (by omega)
      obtain ⟨z0, e0, _, w0⟩ := DataW.trod_int Tryz.underlying3 t0
      obtain ⟨z1, e1, _, w1⟩ := DataW.trod_int Tryz.underlying3 t1
      simp at e0 e1
      rw [e0, e1]
      exact ⟨w0, w1⟩
    have each : ∀ i, i < len → W.cell? (a.add (i * 2)) = some (.int .i64 (intOf (V0 i))) ∧ W.cell? (a.add (i * 2 + 1)) = some (.int .i64 (intOf (V1 i))) := by
      intro i hi
      obtain ⟨k0, k1, t0, t1⟩ := hcell i (by omega)
      obtain ⟨z0, e0, _, _⟩ := DataW.trod_int Tryz.underlying3 t0
      obtain ⟨z1, e1, _, _⟩ := DataW.trod_int Tryz.underlying3 t1
      simp at e0 e1
      rw [e0] at k0 ⊢
      rw [e1] at k1 ⊢
      exact ⟨k0, k1⟩
    refine ⟨a, rfl, ?_, fun i hi => ?_⟩
    · have := World.block_lt_of_cell? W _ (each 0 (by simpa using hpos)).1
      rwa [Addr.add_block'] at this
    · have := each i (by simpa using hi)
      simpa using this

end Go.Proofs.YtglpijjkihpeeaaGreatDoor

/- An argument that is a box, as the frame of a law hands it in: its rules, ends and streams lie in memory, at any address. No condition. -/
namespace Go.Proofs.YtglpijjkihpeeaaGreatDoor
open Go.ChangeShapes Go.WideShapes Go.ChangeAt Go.RowKit Go.Deep

theorem array3b {α : Type} {cs : Array α} (h : cs.size = 3) : ∃ c0 c1 c2, cs = #[c0, c1, c2] := by
  obtain ⟨l⟩ := cs
  match l, h with
  | [c0, c1, c2], _ => exact ⟨c0, c1, c2, rfl⟩
theorem cellsBoxL : Tryz.prog.cellsOf 46 = 3 := by kernel_rfl
theorem cellsConL : Tryz.prog.cellsOf 149 = 7 := by kernel_rfl
theorem cellsRulsL : Tryz.prog.cellsOf 40 = 1 := by kernel_rfl
theorem cellsConsL : Tryz.prog.cellsOf 44 = 1 := by kernel_rfl
theorem cellsStrB : Tryz.prog.cellsOf 9 = 1 := by kernel_rfl

theorem end_ofB {H : Type} {enc : TypeId × Value → H} {W : World} {n : Nat} {c0 c1 : Value} {y : DataW H × List MemPlace} (h : DataW.trod enc Tryz.prog W 0 (fun _ => true) true n 48 [c0, c1] = some y) :
    ∃ a p : Int, c0 = .int .i64 a ∧ c1 = .int .i64 p ∧ (Lit.int .i64 a).wf = true ∧ (Lit.int .i64 p).wf = true := by
  obtain ⟨y0, y1, n', _, _, h0, h1⟩ := trod_struct2 Tryz.underlying48 h
  have h0' : DataW.trod enc Tryz.prog W 0 (fun _ => true) true n' 3 [c0] = some y0 := by simpa [cellsIntL] using h0
  have h1' : DataW.trod enc Tryz.prog W 0 (fun _ => true) true n' 3 [c1] = some y1 := by simpa [cellsIntL] using h1
  obtain ⟨a, e0, _, w0⟩ := DataW.trod_int Tryz.underlying3 h0'
  obtain ⟨p, e1, _, w1⟩ := DataW.trod_int Tryz.underlying3 h1'
  simp at e0 e1
  exact ⟨a, p, e0, e1, w0, w1⟩
/-- A stream's ends have numbers that are ones. -/
def cnWf1 (c : Cn) : Prop := ((Lit.int .i64 c.ia).wf = true ∧ (Lit.int .i64 c.ip).wf = true) ∧ ((Lit.int .i64 c.oa).wf = true ∧ (Lit.int .i64 c.op).wf = true)
def cnWf (l : List Cn) : Prop := ∀ c ∈ l, cnWf1 c
theorem conn_of {H : Type} {enc : TypeId × Value → H} {W : World} {n : Nat} {c0 c1 c2 c3 c4 c5 c6 : Value} {y : DataW H × List MemPlace} (h : DataW.trod enc Tryz.prog W 0 (fun _ => true) true n 149 [c0, c1, c2, c3, c4, c5, c6] = some y) :
    ∃ r : Cn, [c0, c1, c2, c3, c4, c5, c6] = cnC r ∧ (r.kn.size ≤ maxLen ∧ r.he.size ≤ maxLen ∧ r.ne.size ≤ maxLen) ∧ cnWf1 r := by
  obtain ⟨xs, n, _, _, _, hlen, hg⟩ := DataW.trod_struct Tryz.underlying149 h
  match xs, hlen with
  | [y0, y1, y2, y3, y4], _ =>
    have g0 : DataW.trod enc Tryz.prog W 0 (fun _ => true) true n 48 [c0, c1] = some y0 := by simpa [Value.cells, cellsEndL] using hg 0 _ rfl
    have g1 : DataW.trod enc Tryz.prog W 0 (fun _ => true) true n 48 [c2, c3] = some y1 := by simpa [Value.cells, cellsEndL] using hg 1 _ rfl
    have g2 : DataW.trod enc Tryz.prog W 0 (fun _ => true) true n 9 [c4] = some y2 := by simpa [Value.cells, cellsStrB] using hg 2 _ rfl
    have g3 : DataW.trod enc Tryz.prog W 0 (fun _ => true) true n 9 [c5] = some y3 := by simpa [Value.cells, cellsStrB] using hg 3 _ rfl
    have g4 : DataW.trod enc Tryz.prog W 0 (fun _ => true) true n 9 [c6] = some y4 := by simpa [Value.cells, cellsStrB] using hg 4 _ rfl
    obtain ⟨ia, ip, rfl, rfl, v0, v1⟩ := end_ofB g0
    obtain ⟨oa, op, rfl, rfl, v2, v3⟩ := end_ofB g1
    obtain ⟨kn, e2, _, w2⟩ := DataW.trod_string Tryz.underlying9 g2
    obtain ⟨he, e3, _, w3⟩ := DataW.trod_string Tryz.underlying9 g3
    obtain ⟨ne, e4, _, w4⟩ := DataW.trod_string Tryz.underlying9 g4
    simp at e2 e3 e4
    subst e2 e3 e4
    exact ⟨⟨ia, ip, oa, op, kn, he, ne⟩, rfl, ⟨w2, w3, w4⟩, ⟨v0, v1⟩, ⟨v2, v3⟩⟩

/-- Streams that came in lie in memory, at any address. -/
theorem connsArg {H : Type} {enc : TypeId × Value → H} {W : World} {n : Nat} {c0 : Value} {y : DataW H × List MemPlace} (hf : DataW.trod enc Tryz.prog W 0 (fun _ => true) true n 44 [c0] = some y) : ∃ l : List Cn, ArgCn W c0 l ∧ l.length ≤ 9223372036854775807 ∧ cnMax l ∧ cnWf l := by
  rcases open_slice Tryz.underlying44 hf with ⟨hcs, _⟩ | ⟨x, ln, cp, m, n, D, Pl, hcs, _, hl, hm, hmm, _, hcell⟩
  · simp at hcs
    subst hcs
    exact ⟨[], ⟨none, 0, rfl, ⟨Nat.le_refl _, fun _ => rfl⟩, fun h => by simp at h⟩, by simp, fun c hc => (by cases hc), fun c hc => (by cases hc)⟩
  · simp at hcs
    subst hcs
    have hm2 : m = cp := by simpa using hmm
    have each : ∀ i, i < ln → ∃ r : Cn, (∀ j u, (cnC r)[j]? = some u → W.cell? (x.add (i * 7 + j)) = some u) ∧ (r.kn.size ≤ maxLen ∧ r.he.size ≤ maxLen ∧ r.ne.size ≤ maxLen) ∧ cnWf1 r := by
      intro i hi
      obtain ⟨cs', h1, h2⟩ := hcell i (by omega)
      rw [cellsConL] at h1
      obtain ⟨_, hlen, hcc⟩ := World.cells?_some h1
      match cs', hlen with
      | [c0, c1, c2, c3, c4, c5, c6], _ =>
        obtain ⟨r, hr, hsz⟩ := conn_of h2
        refine ⟨r, fun j u hu => ?_, hsz⟩
        have hj : j < 7 := by
          have := (List.getElem?_eq_some_iff.1 hu).1
          rwa [cnC_len] at this
        have := hcc j hj
        rw [add_add, hr, hu] at this
        exact this
    have hl2 : ∀ n, n ≤ ln → ∃ l : List Cn, l.length = n ∧ (∀ i (hi : i < l.length) j u, (cnC l[i])[j]? = some u → W.cell? (x.add (i * 7 + j)) = some u) ∧ cnMax l ∧ cnWf l := by
      intro n
      induction n with
      | zero => intro _; exact ⟨[], rfl, fun i hi => by simp at hi, fun c hc => (by cases hc), fun c hc => (by cases hc)⟩
      | succ n ih =>
        intro hn
        obtain ⟨l, h1, h2, h3, h4⟩ := ih (by omega)
        obtain ⟨b, hb, hb2, hb3⟩ := each n (by omega)
        refine ⟨l ++ [b], by simp [h1], fun i hi => ?_, fun c hc => ?_, fun c hc => ?_⟩
        · by_cases e : i < l.length
          · rw [List.getElem_append_left e]; exact h2 i e
          · simp at hi
            have e2 : i = l.length := by omega
            subst e2
            rw [List.getElem_append_right (Nat.le_refl _)]
            simp only [Nat.sub_self, List.getElem_cons_zero]
            rw [h1]; exact hb
        · rw [List.mem_append] at hc
          rcases hc with hc | hc
          · exact h3 c hc
          · simp at hc
            subst hc
            exact hb2
        · rw [List.mem_append] at hc
          rcases hc with hc | hc
          · exact h4 c hc
          · simp at hc
            subst hc
            exact hb3
    obtain ⟨l, h1, h2, h3, h4⟩ := hl2 ln (Nat.le_refl _)
    subst h1
    refine ⟨l, ⟨some x, cp, rfl, ⟨hl, by simp⟩, fun hn => ⟨x, rfl, ?_, h2⟩⟩, Nat.le_trans hl (by unfold maxLen at hm; exact hm), h3, h4⟩
    have := World.block_lt_of_cell? W _ (h2 0 hn 0 _ rfl)
    rwa [add_blk] at this

/-- A table's ends that came in lie in memory, at any address. -/
theorem endsArgB {H : Type} {enc : TypeId × Value → H} {W : World} {n : Nat} {c0 : Value} {y : DataW H × List MemPlace} (h : DataW.trod enc Tryz.prog W 0 (fun _ => true) true n 43 [c0] = some y) : ∃ es : List (Int × Int), ArgTab W c0 es ∧ es.length ≤ 9223372036854775807 ∧ wfE es := by
  obtain ⟨y0, n, _, _, h0⟩ := trod_struct1 Tryz.underlying43 h
  have h1 : DataW.trod enc Tryz.prog W 0 (fun _ => true) true n 41 [c0] = some y0 := by
    simpa [Value.cells, cellsRowL] using h0
  rcases open_slice_pairs Tryz.underlying41 Tryz.underlying48 cellsEndL rfl rfl cellsIntL cellsIntL h1 with ⟨hcs, _⟩ | ⟨a, len, cap, m, n', V0, V1, D0, D1, P0, P1, hcs, _, hl, hm, hmm, _, hcell⟩
  · simp at hcs
    subst hcs
    exact ⟨[], ⟨none, 0, rfl, ⟨by simp, fun _ => rfl⟩, fun h => by simp at h⟩, by simp, fun e he => by cases he⟩
  · simp at hcs
    subst hcs
    have hm2 : m = cap := by simpa using hmm
    refine ⟨(List.range len).map fun i => (intOf (V0 i), intOf (V1 i)), ⟨some a, cap, by simp, ⟨by simpa using hl, by simp⟩, fun hpos => ?_⟩, by have hm' : cap ≤ 9223372036854775807 := hm; simpa using Nat.le_trans hl hm', fun e he => ?_⟩
    rotate_left
    · obtain ⟨i, hi, rfl⟩ := List.mem_map.1 he
      have hi' : i < len := List.mem_range.1 hi
      obtain ⟨k0, k1, t0, t1⟩ := hcell i (by omega)
      obtain ⟨z0, e0, _, w0⟩ := DataW.trod_int Tryz.underlying3 t0
      obtain ⟨z1, e1, _, w1⟩ := DataW.trod_int Tryz.underlying3 t1
      simp at e0 e1
      rw [e0, e1]
      exact ⟨w0, w1⟩
    have each : ∀ i, i < len → W.cell? (a.add (i * 2)) = some (.int .i64 (intOf (V0 i))) ∧ W.cell? (a.add (i * 2 + 1)) = some (.int .i64 (intOf (V1 i))) := by
      intro i hi
      obtain ⟨k0, k1, t0, t1⟩ := hcell i (by omega)
      obtain ⟨z0, e0, _, _⟩ := DataW.trod_int Tryz.underlying3 t0
      obtain ⟨z1, e1, _, _⟩ := DataW.trod_int Tryz.underlying3 t1
      simp at e0 e1
      rw [e0] at k0 ⊢
      rw [e1] at k1 ⊢
      exact ⟨k0, k1⟩
    refine ⟨a, rfl, ?_, fun i hi => ?_⟩
    · have := World.block_lt_of_cell? W _ (each 0 (by simpa using hpos)).1
      rwa [Addr.add_block'] at this
    · have := each i (by simpa using hi)
      simpa using this

/-- A box as it came in: its rules, its table's ends and its streams lie in memory, at any address. -/
def ArgBx (w : World) (v : Value) (b : Bx) : Prop := ∃ r t c, v = .agg #[r, t, c] ∧ ArgRl w r b.rs ∧ ArgTab w t b.es ∧ ArgCn w c b.cs
theorem ArgBx.below {w w' : World} {v : Value} {b : Bx} (h : ArgBx w v b) (hb : Below w.heap.size w w') : ArgBx w' v b := by
  obtain ⟨r, t, c, rfl, h1, h2, h3⟩ := h
  exact ⟨r, t, c, rfl, h1.below hb, h2.below hb, h3.below hb⟩
/-- Its lists are no longer than a length may be. -/
def bxMax (b : Bx) : Prop := b.rs.length ≤ 9223372036854775807 ∧ b.es.length ≤ 9223372036854775807 ∧ b.cs.length ≤ 9223372036854775807 ∧ cnMax b.cs ∧ wfE b.es ∧ cnWf b.cs

set_option maxRecDepth 100000 in
theorem box_in {H : Type} {enc : TypeId × Value → H} {W : World} {base : Nat} {v : Value} {d : DataW H} {p : List MemPlace} (hv : Value.okWide Tryz.prog W .any base 46 v)
    (h : DataW.Trod enc Tryz.prog W 0 (fun _ => true) true 46 v d p) : ∃ b : Bx, ArgBx W v b ∧ bxMax b := by
  obtain ⟨cs, rfl, hsz⟩ := okWide_struct Tryz.underlying46 hv
  obtain ⟨c0, c1, c2, rfl⟩ := array3b (hsz.trans cellsBoxL)
  obtain ⟨fuel, hf⟩ := h
  obtain ⟨xs, n, _, _, _, hlen, hg⟩ := DataW.trod_struct Tryz.underlying46 hf
  match xs, hlen with
  | [y0, y1, y2], _ =>
    have g0 : DataW.trod enc Tryz.prog W 0 (fun _ => true) true n 40 [c0] = some y0 := by simpa [Value.cells, cellsRulsL] using hg 0 _ rfl
    have g1 : DataW.trod enc Tryz.prog W 0 (fun _ => true) true n 43 [c1] = some y1 := by simpa [Value.cells, cellsTabL, cellsRulsL] using hg 1 _ rfl
    have g2 : DataW.trod enc Tryz.prog W 0 (fun _ => true) true n 44 [c2] = some y2 := by simpa [Value.cells, cellsTabL, cellsRulsL, cellsConsL] using hg 2 _ rfl
    obtain ⟨es, h1, l1, m1⟩ := endsArgB g1
    obtain ⟨cl, h2, l2, m2, m3⟩ := connsArg g2
    have hr : ∃ rs, ArgRl W c0 rs ∧ rs.length ≤ 9223372036854775807 := by
      rcases open_slice Tryz.underlying40 g0 with ⟨hcs, _⟩ | ⟨x, ln, cp, _, _, _, _, hcs, _⟩
      all_goals
        simp at hcs
        subst hcs
        exact rulsArg ⟨n, by simpa [Value.cells] using g0⟩
    obtain ⟨rs, h0, l0⟩ := hr
    exact ⟨⟨rs, es, cl⟩, ⟨c0, c1, c2, rfl, h0, h1, h2⟩, l0, l1, l2, m2, m1, m3⟩

end Go.Proofs.YtglpijjkihpeeaaGreatDoor

/- An argument's table, wherever it lies, as the program's: it lies in a block of ends alone. Condition: at most 2^22 ends. -/
namespace Go.Proofs.YtglpijjkihpeeaaGreatDoor
open Go.RowKit Go.Sort

/-- A block of ends with m cells. -/
def Shape (w : World) (g m : Nat) : Prop := ∃ l : List Value, w.heap[g]? = some (.cells ⟨l⟩ 53) ∧ l.length = m
theorem Shape.below {w w' : World} {g m : Nat} (h : Shape w g m) (hb : Below w.heap.size w w') : Shape w' g m := by
  obtain ⟨l, h1, h2⟩ := h
  exact ⟨l, (hb.block g (Array.getElem?_eq_some_iff.1 h1).1).trans h1, h2⟩
theorem Shape.set {w : World} {g m : Nat} (h : Shape w g m) (j : Nat) (u : Value) : Shape (w.setCell ⟨g, j, none⟩ u) g m := by
  obtain ⟨l, h1, h2⟩ := h
  refine ⟨l.set j u, ?_, by simpa using h2⟩
  show (w.heap.modify g _)[g]? = _
  rw [Array.getElem?_modify]
  simp [h1]
theorem shape_own {w : World} {B g n : Nat} {xs : List Value} (h : w.ownsRow B 53 2 (.slice (some ⟨g, 0, none⟩) n n) n xs) : Shape w g (n * 2) := by
  rcases h.2 with ⟨h0, _⟩ | ⟨g', cap', cur, hv, hB, hg, h2, _, hs, ht⟩
  · cases h0
  · simp at hv
    obtain ⟨rfl, rfl⟩ := hv
    obtain ⟨l⟩ := cur
    exact ⟨l, hg, by simpa using hs⟩
theorem Shape.own {w : World} {B g : Nat} {es : List (Int × Int)} (h : Shape w g (es.length * 2)) (he : EndsAt w g es) (hB : B ≤ g) (hm : es.length ≤ maxLen) : OwnTab w B (.slice (some ⟨g, 0, none⟩) es.length es.length) es := by
  obtain ⟨l, h1, h2⟩ := h
  refine ⟨flatE_len es, Or.inr ⟨g, es.length, ⟨l⟩, rfl, hB, h1, Nat.le_refl _, hm, by simpa using h2, ?_⟩⟩
  rw [List.take_of_length_le (by show l.length ≤ _; omega)]
  apply List.ext_getElem?
  intro j
  by_cases hj : j < (flatE es).length
  · have hc := he.flat j (flatE es)[j] (List.getElem?_eq_getElem hj)
    rw [List.getElem?_eq_getElem hj, ← hc]
    simp [World.cell?, h1]
  · rw [List.getElem?_eq_none (by rw [flatE_len] at hj; show l.length ≤ j; omega), List.getElem?_eq_none (by omega)]

set_option maxRecDepth 100000 in
set_option maxHeartbeats 800000 in
theorem toEndsOwn (v : Value) (es : List (Int × Int)) (w : World) (hn : es.length ≤ 4194304) (ht : ArgTab w v es) :
    Calls Tryz.prog 114 #[v] w fun e w' => ∃ u, e = .returned u ∧ (TabRoom w' w.heap.size u es ∧ OwnTab w' w.heap.size u es) ∧ Below w.heap.size w w' := by
  obtain ⟨ad, cap, rfl, hcap, hr⟩ := ht
  obtain ⟨i0, hi, hz0, hz1, hz2⟩ := info_parts infoEnd
  have HR := Lib.hid hr
  clear hr
  go_enter Tryz.func114, Tryz.ntmps114
  go_wp2_with (at_make; refine wpList_make_full _ rfl (.tmp 6) (.tmp 6) 25 rfl w.heap.size 53 i0 (.agg #[.int .i64 0, .int .i64 0]) 2 (by rfl) hi hz0 hz1 .i64 .i64 (es.length : Int) (es.length : Int) es.length (by rfl) (by rfl) rfl rfl (by rw [hz2]; omega) (by unfold maxLen; omega) (Nat.le_refl _) ?_; intro w1 hown hgrow)
  have R1 : Hid (Room w1 w.heap.size (es.length * 2) ∧ w.heap.size ≤ w.heap.size ∧ w.heap.size < w1.heap.size) := own_room hown
  have S1 : Hid (Shape w1 w.heap.size (es.length * 2)) := shape_own hown
  have B1 : Hid (Below w.heap.size w w1) := (Below.refl _ _).grown hgrow (Nat.le_refl _) (fun k hk => by cases hk)
  clear hown hgrow
  go_loopw [4] (fun i wr => ∃ k : Nat, k ≤ es.length ∧ i = .int .i64 k ∧ EndsAt wr w.heap.size (es.take k) ∧ Room wr w.heap.size (es.length * 2) ∧ Shape wr w.heap.size (es.length * 2) ∧ Below w.heap.size w wr ∧ w.heap.size < wr.heap.size) (fun i _ => es.length - (intOf i).toNat)
  case atStart => exact ⟨0, Nat.zero_le _, rfl, fun i hi => by simp at hi, R1.out.1, S1.out, B1.out, R1.out.2.2⟩
  case round =>
    obtain ⟨k, hk, rfl, he, hro, hsh, hb, hsz⟩ := hrel
    have HE := Lib.hid he
    have HO := Lib.hid hro
    have HSH := Lib.hid hsh
    clear he hro hsh
    by_cases hlt : k < es.length
    · obtain ⟨x, rfl, hx, hrow⟩ := HR.out (by omega)
      obtain ⟨r0, r1⟩ := hrow k hlt
      rw [← hb.cell (p := x.add (k * 2)) (by rw [Addr.add_block']; exact hx)] at r0
      rw [← hb.cell (p := x.add (k * 2 + 1)) (by rw [Addr.add_block']; exact hx)] at r1
      rw [← add_add', add_one'] at r1
      obtain ⟨⟨a, p⟩, hap⟩ : ∃ x, x = es[k] := ⟨_, rfl⟩
      rw [← hap] at r0 r1
      simp only at r0 r1
      have HA := Lib.hid hap
      have hk2 : (k : Int) ≤ (cap : Int) := by have := hcap.1; omega
      clear hrow hap
      go_wp2_with (go_at_call 28; refine (toEnd_any a p _).mono ?_; rintro e w2 ⟨rfl, b2⟩; have hr2 := HO.out.below b2 hsz; obtain ⟨x0, hx0⟩ := (hr2 (k * 2) (by omega)).1; have f0 := (hr2 (k * 2) (by omega)).2; obtain ⟨x1, hx1⟩ := (hr2 (k * 2 + 1) (by omega)).1; have f1 := (hr2 (k * 2 + 1) (by omega)).2)
      go_roundw
      case rel =>
        refine ⟨k + 1, by omega, by go_num, EndsAt.push (es := es) (m := es.length * 2) (by simp; omega) (by rw [List.take_take, Nat.min_eq_left (by omega)]) hk (fun h => by rw [HA.out]; simp) (HE.out.below b2 hsz) hr2 (by omega), (hr2.set (by omega) _).set (by omega) _, ((HSH.out.below b2).set _ _).set _ _, ?_, ?_⟩
        · exact ((hb.trans (b2.mono (by omega))).setCell (by simp) _).setCell (by simp) _
        · have := b2.size; simp; omega
      case measure => simp [intOf]; omega
    · have hkn : k = es.length := by omega
      subst hkn
      go_wp2
      go_ret
      refine ⟨_, rfl, ⟨⟨w.heap.size, es.length, rfl, Nat.le_refl _, Nat.le_refl _, hsz, by simpa using HE.out, HO.out⟩, HSH.out.own (by simpa using HE.out) (Nat.le_refl _) (by unfold maxLen; omega)⟩, hb⟩

set_option maxRecDepth 100000 in
set_option maxHeartbeats 800000 in
theorem toTabOwn (v : Value) (es : List (Int × Int)) (w : World) (hn : es.length ≤ 4194304) (ht : ArgTab w v es) :
    Calls Tryz.prog 58 #[.agg #[v]] w fun e w' => ∃ u, e = .returned (.agg #[u]) ∧ (TabRoom w' w.heap.size u es ∧ OwnTab w' w.heap.size u es) ∧ Below w.heap.size w w' := by
  have HT := Lib.hid ht
  obtain ⟨ad, cap, rfl, hcap, hr⟩ := ht
  clear hr
  go_enter Tryz.func58, Tryz.ntmps58
  go_wp2_with (go_at_call 114; refine (toEndsOwn _ es _ hn (HT.out.below ((((Below.refl _ _).alloc (Nat.le_refl _) _).alloc (by simp) _).alloc (by simp; omega) _))).mono ?_; rintro e w1 ⟨u, rfl, hu, b1⟩; obtain ⟨cA, cB, cC, b01, z1⟩ := cell_three b1; have t0 := (cA 0).1; have r0 := (cB 0).1; have g0 := (cB 0).2; have o0 := (cC 0).1; have p0 := (cC 0).2; simp at t0 r0 o0; obtain ⟨gu, cu, rfl, hu'⟩ : ∃ g c, u = .slice (some ⟨g, 0, none⟩) es.length c ∧ TabRoom w1 (w.heap.size + 3) u es := (by obtain ⟨g, c, q, hh⟩ := hu.1; exact ⟨g, c, q, TabRoom.mono ⟨g, c, q, hh⟩ (by simp)⟩); have HU := Lib.hid hu'; have HW : Hid (OwnTab w1 (w.heap.size + 3) (.slice (some ⟨gu, 0, none⟩) es.length cu) es) := hu.2.mono (by simp); clear hu hu' cA cB cC)
  have q0 : (w1.setCell ⟨w.heap.size + 1 + 1, 0, none⟩ (.slice (some ⟨gu, 0, none⟩) es.length cu)).cell? ⟨w.heap.size + 1, 0, none⟩ = some (.slice none 0 0) := by
    rw [World.cell?_setCell_far _ ⟨w.heap.size + 1 + 1, 0, none⟩ ⟨w.heap.size + 1, 0, none⟩ _ (by show w.heap.size + 1 + 1 ≠ w.heap.size + 1; omega)]; exact r0
  refine bodyPost_ret (v := .agg #[.slice (some ⟨gu, 0, none⟩) es.length cu]) (by simp [results, Tryz.results58, go_sem, World.cell?_setCell_same _ _ _ q0]) rfl ⟨_, rfl, ?_, ?_⟩
  · refine ⟨((HU.out.setCell (a := ⟨w.heap.size + 1 + 1, 0, none⟩) (by simp) _).setCell (a := ⟨w.heap.size + 1, 0, none⟩) (by simp) _).mono (by omega), OwnTab.mono (B := w.heap.size + 3) ?_ (by omega)⟩
    exact ownsRow_setCell_below (a := ⟨w.heap.size + 1, 0, none⟩) (ownsRow_setCell_below (a := ⟨w.heap.size + 1 + 1, 0, none⟩) HW.out (by simp) _) (by simp) _
  · exact (b01.setCell (by simp; omega) _).setCell (by simp) _

end Go.Proofs.YtglpijjkihpeeaaGreatDoor
