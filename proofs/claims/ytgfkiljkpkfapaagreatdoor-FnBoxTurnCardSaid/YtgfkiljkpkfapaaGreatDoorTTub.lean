/- Lines that have gone outside: none has a sign, none names an end inside, and they go outside as they are. No condition. (Several texts, joined: GIBoxOk, GCopyF, GTurnI, GTurnS, BoxSub, PortP, StrOut.) -/
import Derived.Test.YtgfkiljkpkfapaaGreatDoorTPlg
import Derived.Test.YtgfkiljkpkfapaaGreatDoorTPlh
import Derived.Test.YtgfkiljkpkfapaaGreatDoorTTua
import Derived.Test.YtgfkiljkpkfapaaGreatDoorTPlm
import Derived.Test.YtgfkiljkpkfapaaGreatDoorTPlc
import Derived.Test.YtgfkiljkpkfapaaGreatDoorTPla
import Derived.Test.YtgfkiljkpkfapaaGreatDoorTPlk
import Derived.Test.YtgfkiljkpkfapaaGreatDoorTPld

/- BoxOk of the program, at a box whose lists lie at any address. Conditions: at most 2^20 rules, ends and streams each; texts of at most 2^21 bytes. -/
namespace Go.Proofs.YtgfkiljkpkfapaaGreatDoor
open Go.RowKit Go.Sort

set_option maxRecDepth 100000 in
set_option maxHeartbeats 3200000 in
theorem implBoxOk_anyG (B : Nat) (v : Value) (b : Bx) (w : World) (hs : bxSz b) (hwf : wfE b.es) (hcw : cnWf b.cs) (ho : GBx w B v b) (hv : VarsOk w) (htb : TabOk w) :
    Calls Tryz.prog 16 #[v] w fun e w' => e = .returned (.bool (boxOkB b)) ∧ Below w.heap.size w w' := by
  obtain ⟨a1, c1, a2, c2, a3, c3, rfl, o1, o2, o3⟩ := ho
  obtain ⟨m1, m2, m3, m4⟩ := hs
  obtain ⟨W0, hW0⟩ : ∃ W, W = w.alloc (.cells #[.slice a1 b.rs.length c1, .slice a2 b.es.length c2, .slice a3 b.cs.length c3] 29) := ⟨_, rfl⟩
  have hA : Below w.heap.size w W0 := by rw [hW0]; exact (Below.refl _ _).alloc (Nat.le_refl _) _
  have K1 : Blk W0 w.heap.size 29 [.slice a1 b.rs.length c1, .slice a2 b.es.length c2, .slice a3 b.cs.length c3] := by rw [hW0]; exact three_new w _ _ _ _
  have KK : Hid (∀ w', Below W0.heap.size W0 w' → w'.cell? ⟨w.heap.size, 0, none⟩ = some (.slice a1 b.rs.length c1) ∧ w'.cell? ⟨w.heap.size, 1, none⟩ = some (.slice a2 b.es.length c2) ∧ w'.cell? ⟨w.heap.size, 2, none⟩ = some (.slice a3 b.cs.length c3)) := fun w' h => (three_all (K1.below h)).1
  have HA : Hid (∀ w', Below W0.heap.size W0 w' → Below w.heap.size w w') := fun w' h => hA.trans (h.mono hA.size)
  have HM : Hid (∀ w', Below w.heap.size w w' → Calls Tryz.prog 53 #[.agg #[.slice a2 b.es.length c2]] w' fun e w'' => e = .returned (.bool (mapB b.es)) ∧ Below w'.heap.size w' w'') := fun w' h => implMapOk_any _ b.es w' (by omega) hwf (OwnTab.tab (own_later o2 h))
  have HR : Hid (∀ w', Below w.heap.size w w' → Calls Tryz.prog 52 #[.slice a1 b.rs.length c1] w' fun e w'' => e = .returned (.bool (rulesB b.rs)) ∧ Below w'.heap.size w' w'') := fun w' h => implRules_any _ b.rs w' (by omega) (o1.below h)
  have HC : Hid (mapB b.es = true → ∀ k (hk : k < b.cs.length) (c : Cn), c = b.cs[k] → ∀ w', Below w.heap.size w w' → Calls Tryz.prog 55 #[.agg #[.slice a2 b.es.length c2], .agg #[.int .i64 c.ia, .int .i64 c.ip, .int .i64 c.oa, .int .i64 c.op, .string c.kn, .string c.he, .string c.ne]] w' fun e w'' => e = .returned (.bool (conI b.es c)) ∧ Below w'.heap.size w' w'') := fun hm k hk c hc w' h => by
    have hmem : c ∈ b.cs := by rw [hc]; exact List.getElem_mem _
    obtain ⟨y1, y2, y3⟩ := m4 c hmem
    obtain ⟨⟨v1, v2⟩, -⟩ := hcw c hmem
    exact implConn_any _ b.es c.ia c.ip c.oa c.op c.kn c.he c.ne w' hm (by omega) (by omega) (by omega) v1 v2 (OwnTab.tab (own_later o2 h)) (hv.below h) (htb.below h (Nat.le_refl _))
  have HF : Hid (∀ (c : Cn) w', Below w.heap.size w w' → Calls Tryz.prog 54 #[.slice a3 b.cs.length c3, .agg #[.int .i64 c.ia, .int .i64 c.ip], .agg #[.int .i64 c.oa, .int .i64 c.op]] w' fun e w'' => e = .returned (.int .i64 (findCn b.cs c.ia c.ip c.oa c.op)) ∧ Below w'.heap.size w' w'') := fun c w' h => implFindCn_any _ b.cs c.ia c.ip c.oa c.op w' (by omega) (o3.below h)
  have HRow : Hid (∀ k (hk : k < b.cs.length) (c : Cn), c = b.cs[k] → ∀ w', Below w.heap.size w w' → ∃ g3, a3 = some ⟨g3, 0, none⟩ ∧ w'.cell? ⟨g3, k * 7, none⟩ = some (.int .i64 c.ia) ∧ w'.cell? ⟨g3, k * 7 + 1, none⟩ = some (.int .i64 c.ip) ∧ w'.cell? ⟨g3, k * 7 + 2, none⟩ = some (.int .i64 c.oa) ∧ w'.cell? ⟨g3, k * 7 + 3, none⟩ = some (.int .i64 c.op) ∧ w'.cell? ⟨g3, k * 7 + 4, none⟩ = some (.string c.kn) ∧ w'.cell? ⟨g3, k * 7 + 5, none⟩ = some (.string c.he) ∧ w'.cell? ⟨g3, k * 7 + 6, none⟩ = some (.string c.ne)) := fun k hk c hc w' h => by
    obtain ⟨ax, cx, ex, -, hrow⟩ := o3.below h
    simp only [Value.slice.injEq] at ex
    obtain ⟨rfl, -, rfl⟩ := ex
    obtain ⟨g, e, hr⟩ := hrow (by omega)
    exact ⟨g, e, (RowAt.conn hr k hk c hc).1⟩
  have HCP : Hid (b.cs.length ≤ c3) := by
    obtain ⟨ax, cx, ex, hcx, -⟩ := o3
    simp only [Value.slice.injEq] at ex
    obtain ⟨-, -, rfl⟩ := ex
    exact hcx
  have HCI : Hid (mapB b.es = true → ∀ k (hk : k < b.cs.length) (c : Cn), c = b.cs[k] → connB b.es b.cs k = (decide (findCn b.cs c.ia c.ip c.oa c.op = (k : Int)) && conI b.es c)) := fun hm k hk c hc => connB_I hm hk c hc
  have HQ : Hid (boxOkB b = (mapB b.es && rulesB b.rs && decide (b.cs.length ≤ 3) && (List.range b.cs.length).all (connB b.es b.cs))) := rfl
  obtain ⟨Q, hQ⟩ : ∃ Q, Q = boxOkB b := ⟨_, rfl⟩
  obtain ⟨q1, e1⟩ : ∃ q, q = mapB b.es := ⟨_, rfl⟩
  obtain ⟨q2, e2⟩ : ∃ q, q = rulesB b.rs := ⟨_, rfl⟩
  obtain ⟨P, hP⟩ : ∃ P, P = connB b.es b.cs := ⟨_, rfl⟩
  obtain ⟨n1, hn1⟩ : ∃ n, n = b.rs.length := ⟨_, rfl⟩
  obtain ⟨n2, hn2⟩ : ∃ n, n = b.es.length := ⟨_, rfl⟩
  obtain ⟨n3, hn3⟩ : ∃ n, n = b.cs.length := ⟨_, rfl⟩
  rw [← hQ] at HQ ⊢
  rw [← e1] at HM HC HCI HQ
  rw [← e2] at HR HQ
  rw [← hP] at HCI HQ
  rw [← hn1] at KK HR hW0 ⊢
  rw [← hn2] at KK HM HC hW0 ⊢
  have HL := Lib.hid hn3
  rw [← hn3] at KK HF HQ hW0 m3 ⊢
  have BB : Hid (Below W0.heap.size W0 W0) := Below.refl _ _
  clear hQ e1 e2 hP hn1 hn2 hn3 o1 o2 o3 m1 m2 m4 K1 hA hv htb hwf hcw
  subst hW0
  cases q2
  · have hq : Q = false := by have := HQ.out; simpa using this
    subst hq
    clear HQ HC HCI HF HRow
    go_enter Tryz.func16, Tryz.ntmps16
    go_wp2_with fail
    (go_at_call 52; refine (HR.out _ (HA.out _ BB.out)).mono ?_; rintro e w1 ⟨rfl, b1⟩)
    go_wp2_with fail
    go_ret
    exact ⟨rfl, HA.out _ b1⟩
  cases q1
  · have hq : Q = false := by have := HQ.out; simpa using this
    subst hq
    clear HQ HC HCI HF HRow
    go_enter Tryz.func16, Tryz.ntmps16
    go_wp2_with fail
    (go_at_call 52; refine (HR.out _ (HA.out _ BB.out)).mono ?_; rintro e w1 ⟨rfl, b1⟩)
    obtain ⟨k0, k1, k2⟩ := KK.out _ b1
    have B1 := Lib.hid b1
    clear b1
    go_wp2_with fail
    (go_at_call 53; refine (HM.out _ (HA.out _ B1.out)).mono ?_; rintro e w2 ⟨rfl, b2⟩)
    go_wp2_with fail
    go_ret
    exact ⟨rfl, HA.out _ (B1.out.trans (b2.mono B1.out.size))⟩
  have HC2 := Lib.hid (HC.out rfl)
  have HCI2 := Lib.hid (HCI.out rfl)
  clear HC HCI
  by_cases h3 : 3 < n3
  · have hq : Q = false := by have := HQ.out; simpa [show ¬ n3 ≤ 3 by omega] using this
    subst hq
    clear HQ HC2 HCI2 HF HRow
    go_enter Tryz.func16, Tryz.ntmps16
    go_wp2_with fail
    (go_at_call 52; refine (HR.out _ (HA.out _ BB.out)).mono ?_; rintro e w1 ⟨rfl, b1⟩)
    obtain ⟨k0, k1, k2⟩ := KK.out _ b1
    have B1 := Lib.hid b1
    clear b1
    go_wp2_with fail
    (go_at_call 53; refine (HM.out _ (HA.out _ B1.out)).mono ?_; rintro e w2 ⟨rfl, b2⟩)
    have B2 := Lib.hid (B1.out.trans (b2.mono B1.out.size))
    obtain ⟨k0', k1', k2'⟩ := KK.out _ B2.out
    clear b2
    go_wp2_with fail
    go_ret
    exact ⟨rfl, HA.out _ B2.out⟩
  have HQ2 : Hid (Q = (List.range n3).all P) := by
    show Q = _
    have := HQ.out
    rw [decide_eq_true (by omega : n3 ≤ 3)] at this
    simpa using this
  clear HQ
  go_enter Tryz.func16, Tryz.ntmps16
  go_wp2_with fail
  (go_at_call 52; refine (HR.out _ (HA.out _ BB.out)).mono ?_; rintro e w1 ⟨rfl, b1⟩)
  obtain ⟨k0, k1, k2⟩ := KK.out _ b1
  have B1 := Lib.hid b1
  clear b1
  go_wp2_with fail
  (go_at_call 53; refine (HM.out _ (HA.out _ B1.out)).mono ?_; rintro e w2 ⟨rfl, b2⟩)
  have B2 := Lib.hid (B1.out.trans (b2.mono B1.out.size))
  obtain ⟨k0', k1', k2'⟩ := KK.out _ B2.out
  clear b2 k0 k1 k2
  go_wp2_with fail
  clear k0' k1' k2'
  go_loopw [3, 24] (fun _ i wr => ∃ k : Nat, k ≤ n3 ∧ i = .int .i64 k ∧ Hid (∀ j, j < k → P j = true) ∧ Hid (Below (w.alloc (.cells #[.slice a1 n1 c1, .slice a2 n2 c2, .slice a3 n3 c3] 29)).heap.size (w.alloc (.cells #[.slice a1 n1 c1, .slice a2 n2 c2, .slice a3 n3 c3] 29)) wr)) (fun _ i _ => n3 - (intOf i).toNat)
  case atStart => exact ⟨0, Nat.zero_le _, rfl, fun j hj => by omega, B2⟩
  case round =>
    obtain ⟨k, hk, rfl, HD, HB⟩ := hrel
    obtain ⟨k0, k1, k2⟩ := KK.out _ HB.out
    by_cases hlt : k < n3
    · have hlt2 : k < b.cs.length := by have := HL.out; omega
      have hcp : (k : Int) < (c3 : Int) := by have := HCP.out; omega
      obtain ⟨⟨ia, ip, oa, op, kn, he, ne⟩, hc⟩ : ∃ c, c = b.cs[k] := ⟨_, rfl⟩
      have CC : Hid (∀ w', Below w.heap.size w w' → Calls Tryz.prog 55 #[.agg #[.slice a2 n2 c2], .agg #[.int .i64 ia, .int .i64 ip, .int .i64 oa, .int .i64 op, .string kn, .string he, .string ne]] w' fun e w'' => e = .returned (.bool (conI b.es ⟨ia, ip, oa, op, kn, he, ne⟩)) ∧ Below w'.heap.size w' w'') := HC2.out k hlt2 _ hc
      have CF : Hid (∀ w', Below w.heap.size w w' → Calls Tryz.prog 54 #[.slice a3 n3 c3, .agg #[.int .i64 ia, .int .i64 ip], .agg #[.int .i64 oa, .int .i64 op]] w' fun e w'' => e = .returned (.int .i64 (findCn b.cs ia ip oa op)) ∧ Below w'.heap.size w' w'') := HF.out ⟨ia, ip, oa, op, kn, he, ne⟩
      have CI : Hid (P k = (decide (findCn b.cs ia ip oa op = (k : Int)) && conI b.es ⟨ia, ip, oa, op, kn, he, ne⟩)) := HCI2.out k hlt2 _ hc
      obtain ⟨g3, ha3, y0, y1, y2, y3, y4, y5, y6⟩ := HRow.out k hlt2 _ hc wr (HA.out _ HB.out)
      subst ha3
      simp only at y0 y1 y2 y3 y4 y5 y6
      obtain ⟨f, hf⟩ : ∃ z, z = findCn b.cs ia ip oa op := ⟨_, rfl⟩
      obtain ⟨q, hq⟩ : ∃ z, z = conI b.es ⟨ia, ip, oa, op, kn, he, ne⟩ := ⟨_, rfl⟩
      rw [← hf] at CF CI
      rw [← hq] at CC CI
      clear hc HC2 HF HCI2 hf hq HRow
      have hsw : w.heap.size < wr.heap.size := by have := HB.out.size; simp at this; omega
      have kA : ∀ o, (wr.alloc o).cell? ⟨w.heap.size, 2, none⟩ = some (.slice (some ⟨g3, 0, none⟩) n3 c3) := fun o => (cell_alloc_lt hsw).trans k2
      have kB : ∀ o, (wr.alloc o).cell? ⟨w.heap.size, 1, none⟩ = some (.slice a2 n2 c2) := fun o => (cell_alloc_lt hsw).trans k1
      have AA : Hid (∀ o, Below w.heap.size w (wr.alloc o)) := fun o => (HA.out _ HB.out).alloc (by omega) o
      have LL : Hid (∀ w', Below (wr.alloc (.cells #[.int .i64 ia, .int .i64 ip, .int .i64 oa, .int .i64 op, .string kn, .string he, .string ne] 49)).heap.size (wr.alloc (.cells #[.int .i64 ia, .int .i64 ip, .int .i64 oa, .int .i64 op, .string kn, .string he, .string ne] 49)) w' → (w'.cell? ⟨wr.heap.size, 0, none⟩ = some (.int .i64 ia) ∧ w'.cell? ⟨wr.heap.size, 1, none⟩ = some (.int .i64 ip) ∧ w'.cell? ⟨wr.heap.size, 2, none⟩ = some (.int .i64 oa) ∧ w'.cell? ⟨wr.heap.size, 3, none⟩ = some (.int .i64 op) ∧ w'.cell? ⟨wr.heap.size, 4, none⟩ = some (.string kn) ∧ w'.cell? ⟨wr.heap.size, 5, none⟩ = some (.string he) ∧ w'.cell? ⟨wr.heap.size, 6, none⟩ = some (.string ne)) ∧ w'.cell? ⟨w.heap.size, 1, none⟩ = some (.slice a2 n2 c2) ∧ Hid (Below (w.alloc (.cells #[.slice a1 n1 c1, .slice a2 n2 c2, .slice (some ⟨g3, 0, none⟩) n3 c3] 29)).heap.size (w.alloc (.cells #[.slice a1 n1 c1, .slice a2 n2 c2, .slice (some ⟨g3, 0, none⟩) n3 c3] 29)) w')) := fun w' h =>
        ⟨seven_cells ((show Blk (wr.alloc (.cells #[.int .i64 ia, .int .i64 ip, .int .i64 oa, .int .i64 op, .string kn, .string he, .string ne] 49)) wr.heap.size _ _ from heap_last3 wr _).below h), (h.cell (p := ⟨w.heap.size, 1, none⟩) (by simp; omega)).trans (kB _), (HB.out.alloc HB.out.size _).trans (h.mono (HB.out.alloc HB.out.size _).size)⟩
      by_cases hfk : f = (k : Int)
      rotate_left
      · have HF0 : Hid (Q = false) := HQ2.out.trans (all_no hlt (CI.out.trans (by rw [decide_eq_false hfk]; rfl)))
        clear CI HQ2 HD
        go_wp2_with fail
        (go_at_call 54; refine (CF.out _ (AA.out _)).mono ?_; rintro e w3 ⟨rfl, b3⟩)
        obtain ⟨⟨z0, z1, z2, z3, z4, z5, z6⟩, x1, HB3⟩ := LL.out _ b3
        clear b3 y0 y1 y2 y3 y4 y5 y6
        go_wp2_with fail
        go_ret
        exact ⟨ret_bool HF0.out.symm, HA.out _ HB3.out⟩
      subst hfk
      cases q
      · have HF0 : Hid (Q = false) := HQ2.out.trans (all_no hlt (CI.out.trans (by simp)))
        clear CI HQ2 HD
        go_wp2_with fail
        (go_at_call 54; refine (CF.out _ (AA.out _)).mono ?_; rintro e w3 ⟨rfl, b3⟩)
        obtain ⟨⟨z0, z1, z2, z3, z4, z5, z6⟩, x1, HB3⟩ := LL.out _ b3
        clear b3 y0 y1 y2 y3 y4 y5 y6
        go_wp2_with fail
        (go_at_call 55; refine (CC.out _ (HA.out _ HB3.out)).mono ?_; rintro e w4 ⟨rfl, b4⟩)
        have HB4 := Lib.hid (HB3.out.trans (b4.mono HB3.out.size))
        clear b4
        go_wp2_with fail
        go_ret
        exact ⟨ret_bool HF0.out.symm, HA.out _ HB4.out⟩
      · have HN : Hid (∀ j, j < k + 1 → P j = true) := fun j hj => by
          by_cases e : j = k
          · subst e; exact CI.out.trans (by simp)
          · exact HD.out j (by omega)
        clear CI HQ2 HD
        go_wp2_with fail
        (go_at_call 54; refine (CF.out _ (AA.out _)).mono ?_; rintro e w3 ⟨rfl, b3⟩)
        obtain ⟨⟨z0, z1, z2, z3, z4, z5, z6⟩, x1, HB3⟩ := LL.out _ b3
        clear b3 y0 y1 y2 y3 y4 y5 y6
        go_wp2_with fail
        (go_at_call 55; refine (CC.out _ (HA.out _ HB3.out)).mono ?_; rintro e w4 ⟨rfl, b4⟩)
        have HB4 := Lib.hid (HB3.out.trans (b4.mono HB3.out.size))
        clear b4
        go_wp2_with fail
        go_roundw
        case rel => exact ⟨k + 1, by omega, by go_num, HN, HB4⟩
        case measure => simp [intOf]; omega
    · have HT : Hid (Q = true) := HQ2.out.trans (all_yes fun j hj => HD.out j (by omega))
      have hkn : k = n3 := by omega
      clear HQ2 HD
      go_wp2
      go_ret
      exact ⟨ret_bool HT.out.symm, HA.out _ HB.out⟩

end Go.Proofs.YtgfkiljkpkfapaaGreatDoor

/- A box in the call's own memory, an empty list of it at any address, or nil; the program's copy of it. Condition: at most 2^20 rules, ends and streams each. -/
namespace Go.Proofs.YtgfkiljkpkfapaaGreatDoor
open Go.RowKit Go.Sort

theorem FrL.none {α : Type} {t : TypeId} {k : Nat} {c : α → List Value} {w : World} {B n cap : Nat} {xs : List α} (h : FrL t k c w B (.slice none n cap) xs) : n = 0 ∧ cap = 0 ∧ xs = [] := by
  rcases h with ⟨h0, a, cap', hv, hc⟩ | h
  · simp only [Value.slice.injEq] at hv
    obtain ⟨e1, e2, e3⟩ := hv
    exact ⟨e2, by rw [e3]; exact hc e1.symm, h0⟩
  · rcases h.2 with ⟨hv, h1⟩ | ⟨g, cap', cur, hv, _⟩
    · simp only [Value.slice.injEq] at hv
      exact ⟨hv.2.1, hv.2.2, List.eq_nil_of_length_eq_zero h1⟩
    · simp only [Value.slice.injEq] at hv
      cases hv.1
theorem FrL.drew {α : Type} {t : TypeId} {k : Nat} {c : α → List Value} {w : World} {B : Nat} {v : Value} {xs : List α} (h : FrL t k c w B v xs) : FrL t k c w.drew B v xs := FrL.later h (Below.refl _ _).drew

set_option maxRecDepth 100000 in
set_option maxHeartbeats 1600000 in
theorem cloneRuls_F (B : Nat) (a : Option Addr) (cap : Nat) (l : List Rl) (w : World) (hn : l.length ≤ 4194304) (hv : FrL 115 7 rlC w B (.slice a l.length cap) l) :
    Calls Tryz.prog 73 #[.slice a l.length cap] w fun e w' => ∃ g c, e = .returned (.slice g l.length c) ∧ FrL 115 7 rlC w' w.heap.size (.slice g l.length c) l ∧ Below w.heap.size w w' := by
  cases a with
  | some x =>
    refine (cloneRuls_any x cap l w hn (FrRl.rd hv)).mono ?_
    rintro e w' ⟨g, c, rfl, o, b⟩
    exact ⟨_, _, rfl, FrL.own o, b⟩
  | none =>
    obtain ⟨h1, rfl, rfl⟩ := FrL.none hv
    clear hv hn h1
    simp only [List.length_nil]
    have he : ∀ w : World, (binOp .eql 23 (.slice none 0 0) (.slice none 0 0)).run Tryz.prog w = .ok (.bool true) w := fun _ => rfl
    go_enter Tryz.func73, Tryz.ntmps73
    go_wp2_with fail
    go_ret
    exact ⟨none, 0, rfl, FrL.nil _ _ _ _ (fun _ => rfl), Below.refl _ _⟩

set_option maxRecDepth 100000 in
set_option maxHeartbeats 1600000 in
theorem cloneEnds_F (B : Nat) (a : Option Addr) (cap : Nat) (l : List (Int × Int)) (w : World) (hn : l.length ≤ 4194304) (hv : FrL 31 2 enC w B (.slice a l.length cap) l) :
    Calls Tryz.prog 74 #[.slice a l.length cap] w fun e w' => ∃ g c, e = .returned (.slice g l.length c) ∧ FrL 31 2 enC w' w.heap.size (.slice g l.length c) l ∧ Below w.heap.size w w' := by
  cases a with
  | some x =>
    refine (cloneEnds_any x cap l w hn (FrL.rd enC_two (by decide) hv)).mono ?_
    rintro e w' ⟨g, c, rfl, o, b⟩
    exact ⟨_, _, rfl, FrL.own o, b⟩
  | none =>
    obtain ⟨h1, rfl, rfl⟩ := FrL.none hv
    clear hv hn h1
    simp only [List.length_nil]
    have he : ∀ w : World, (binOp .eql 24 (.slice none 0 0) (.slice none 0 0)).run Tryz.prog w = .ok (.bool true) w := fun _ => rfl
    go_enter Tryz.func74, Tryz.ntmps74
    go_wp2_with fail
    go_ret
    exact ⟨none, 0, rfl, FrL.nil _ _ _ _ (fun _ => rfl), Below.refl _ _⟩

set_option maxRecDepth 100000 in
set_option maxHeartbeats 1600000 in
theorem cloneConns_F (B : Nat) (a : Option Addr) (cap : Nat) (l : List Cn) (w : World) (hn : l.length ≤ 4194304) (hv : FrL 49 7 cnC w B (.slice a l.length cap) l) :
    Calls Tryz.prog 75 #[.slice a l.length cap] w fun e w' => ∃ g c, e = .returned (.slice g l.length c) ∧ FrL 49 7 cnC w' w.heap.size (.slice g l.length c) l ∧ Below w.heap.size w w' := by
  cases a with
  | some x =>
    refine (cloneConns_any x cap l w hn (FrL.rd cnC_len (by decide) hv)).mono ?_
    rintro e w' ⟨g, c, rfl, o, b⟩
    exact ⟨_, _, rfl, FrL.own o, b⟩
  | none =>
    obtain ⟨h1, rfl, rfl⟩ := FrL.none hv
    clear hv hn h1
    simp only [List.length_nil]
    have he : ∀ w : World, (binOp .eql 27 (.slice none 0 0) (.slice none 0 0)).run Tryz.prog w = .ok (.bool true) w := fun _ => rfl
    go_enter Tryz.func75, Tryz.ntmps75
    go_wp2_with fail
    go_ret
    exact ⟨none, 0, rfl, FrL.nil _ _ _ _ (fun _ => rfl), Below.refl _ _⟩

/-- A box in the call's own memory, an empty list of it at any address, or nil; its table a list of the call's own, or nil. -/
def OwF (w : World) (B : Nat) (v : Value) (b : Bx) : Prop := ∃ x1 c1 x2 c2 x3 c3, v = .agg #[.slice x1 b.rs.length c1, .slice x2 b.es.length c2, .slice x3 b.cs.length c3] ∧
  FrRl w B (.slice x1 b.rs.length c1) b.rs ∧ FrTb w B (.slice x2 b.es.length c2) b.es ∧ FrCn w B (.slice x3 b.cs.length c3) b.cs
theorem OwF.fr {w : World} {B : Nat} {v : Value} {b : Bx} (h : OwF w B v b) : FrBx w B v b := by
  obtain ⟨x1, c1, x2, c2, x3, c3, rfl, h1, h2, h3⟩ := h
  exact ⟨_, _, _, rfl, h1, h2, h3⟩
theorem FrBx.owf {w : World} {B : Nat} {v : Value} {b : Bx} (h : FrBx w B v b) : OwF w B v b := by
  obtain ⟨r, t, c, rfl, h1, h2, h3⟩ := h
  obtain ⟨a1, c1, rfl, -⟩ := FrL.form h1
  obtain ⟨a2, c2, rfl, -⟩ := FrL.form h2
  obtain ⟨a3, c3, rfl, -⟩ := FrL.form h3
  exact ⟨_, _, _, _, _, _, rfl, h1, h2, h3⟩
theorem OwF.later {w w' : World} {B : Nat} {v : Value} {b : Bx} (h : OwF w B v b) (hb : Below w.heap.size w w') : OwF w' B v b := (h.fr.later hb).owf
theorem OwF.base {w : World} {B B' : Nat} {v : Value} {b : Bx} (h : OwF w B v b) (hB : B' ≤ B) : OwF w B' v b := (h.fr.base hB).owf
theorem OwF.setCell {w : World} {B : Nat} {v : Value} {b : Bx} (h : OwF w B v b) {a : Addr} (ha : a.block < B) (u : Value) : OwF (w.setCell a u) B v b := (h.fr.setCell ha u).owf
theorem put10_ownF {w : World} {n B : Nat} {v : Value} {b : Bx} (h : OwF w B v b) (hB : n + 1 + 1 + 1 < B) (u0 u1 u2 t0 t1 t2 t3 t4 t5 t6 : Value) : OwF (put10 w n u0 u1 u2 t0 t1 t2 t3 t4 t5 t6) B v b :=
  have h1 : n + 1 + 1 < B := by omega
  (((((((((h.setCell (a := ⟨n + 1 + 1, 0, none⟩) h1 _).setCell (a := ⟨n + 1 + 1, 1, none⟩) h1 _).setCell (a := ⟨n + 1 + 1, 2, none⟩) h1 _).setCell (a := ⟨n + 1 + 1 + 1, 0, none⟩) hB _).setCell (a := ⟨n + 1 + 1 + 1, 1, none⟩) hB _).setCell (a := ⟨n + 1 + 1 + 1, 2, none⟩) hB _).setCell (a := ⟨n + 1 + 1 + 1, 3, none⟩) hB _).setCell (a := ⟨n + 1 + 1 + 1, 4, none⟩) hB _).setCell (a := ⟨n + 1 + 1 + 1, 5, none⟩) hB _).setCell (a := ⟨n + 1 + 1 + 1, 6, none⟩) hB _

set_option maxRecDepth 100000 in
set_option maxHeartbeats 3200000 in
theorem implCopy_F (B : Nat) (v : Value) (b : Bx) (w : World) (hs : bxSz b) (hv : OwF w B v b) :
    Calls Tryz.prog 30 #[v] w fun e w' => ∃ u, e = .returned u ∧ OwF w' w.heap.size u b ∧ Below w.heap.size w w' := by
  obtain ⟨x1, c1, x2, c2, x3, c3, rfl, h1, h2, h3⟩ := hv
  obtain ⟨m1, m2, m3, -⟩ := hs
  obtain ⟨W, hW⟩ : ∃ W, W = (w.alloc (.cells #[.slice x1 b.rs.length c1, .slice x2 b.es.length c2, .slice x3 b.cs.length c3] 29)).alloc (.cells #[.slice none 0 0, .slice none 0 0, .slice none 0 0] 29) := ⟨_, rfl⟩
  have hB : Below w.heap.size w W := by rw [hW]; exact ((Below.refl _ _).alloc (Nat.le_refl _) _).alloc (by simp) _
  have hs0 : W.heap.size = w.heap.size + 1 + 1 := by rw [hW]; simp
  have K0 : Hid (Blk W w.heap.size 29 [.slice x1 b.rs.length c1, .slice x2 b.es.length c2, .slice x3 b.cs.length c3]) := by
    show Blk W _ _ _
    rw [hW]; exact (three_new w _ _ _ _).below ((Below.refl _ _).alloc (Nat.le_refl _) _)
  have K1 : Hid (Blk W (w.heap.size + 1) 29 [.slice none 0 0, .slice none 0 0, .slice none 0 0]) := by
    have h := three_new (w.alloc (.cells #[.slice x1 b.rs.length c1, .slice x2 b.es.length c2, .slice x3 b.cs.length c3] 29)) (.slice none 0 0) (.slice none 0 0) (.slice none 0 0) 29
    show Blk W (w.heap.size + 1) 29 _
    rw [hW]
    simpa using h
  have CP : Hid (Cp w (.slice x1 b.rs.length c1) (.slice x2 b.es.length c2) (.slice x3 b.cs.length c3) W) := by
    obtain ⟨⟨k0, k1, k2⟩, -⟩ := three_all K0.out
    exact ⟨hB, by omega, k0, k1, k2⟩
  have H1 : Hid (∀ w', Below w.heap.size w w' → Calls Tryz.prog 73 #[(.slice x1 b.rs.length c1)] w' fun e w'' => ∃ (g : Option Addr) (c : Nat), e = .returned (.slice g b.rs.length c) ∧ FrRl w'' w'.heap.size (.slice g b.rs.length c) b.rs ∧ Below w'.heap.size w' w'') := fun w' h => cloneRuls_F B x1 c1 b.rs w' (by omega) (FrL.later h1 h)
  have H2 : Hid (∀ w', Below w.heap.size w w' → Calls Tryz.prog 74 #[(.slice x2 b.es.length c2)] w' fun e w'' => ∃ (g : Option Addr) (c : Nat), e = .returned (.slice g b.es.length c) ∧ FrTb w'' w'.heap.size (.slice g b.es.length c) b.es ∧ Below w'.heap.size w' w'') := fun w' h => cloneEnds_F B x2 c2 b.es w' (by omega) (FrL.later h2 h)
  have H3 : Hid (∀ w', Below w.heap.size w w' → Calls Tryz.prog 75 #[(.slice x3 b.cs.length c3)] w' fun e w'' => ∃ (g : Option Addr) (c : Nat), e = .returned (.slice g b.cs.length c) ∧ FrCn w'' w'.heap.size (.slice g b.cs.length c) b.cs ∧ Below w'.heap.size w' w'') := fun w' h => cloneConns_F B x3 c3 b.cs w' (by omega) (FrL.later h3 h)
  have hM := CP.out
  have zs : w.heap.size + 1 < W.heap.size := by omega
  clear h1 h2 h3 m1 m2 m3 K0 hB
  subst hW
  go_enter Tryz.func30, Tryz.ntmps30
  go_wp2_with fail
  obtain ⟨W, hW⟩ : ∃ W, W = (w.alloc (.cells #[.slice x1 b.rs.length c1, .slice x2 b.es.length c2, .slice x3 b.cs.length c3] 29)).alloc (.cells #[.slice none 0 0, .slice none 0 0, .slice none 0 0] 29) := ⟨_, rfl⟩
  rw [← hW]
  rw [← hW] at K1 CP hM zs hs0
  clear hW
  go_region_held3 (fun w' => Below w.heap.size w w' ∧ w.heap.size + 1 + 1 ≤ w'.heap.size ∧ w'.cell? ⟨w.heap.size, 0, none⟩ = some (.slice x1 b.rs.length c1) ∧ w'.cell? ⟨w.heap.size, 1, none⟩ = some (.slice x2 b.es.length c2) ∧ w'.cell? ⟨w.heap.size, 2, none⟩ = some (.slice x3 b.cs.length c3))
    (first
      | exact CP.out
      | exact CP.out.drew
      | exact cc
      | exact cc.drew
      | exact cc.set _ _
      | exact (cc.set _ _).set _ _
      | exact ((cc.set _ _).set _ _).set _ _
      | exact (((cc.set _ _).set _ _).set _ _).drew
      | (trace_state; fail))
    (first
      | (go_at_call 73; have hS : Cp w (.slice x1 b.rs.length c1) (.slice x2 b.es.length c2) (.slice x3 b.cs.length c3) _ := (by assumption : Below w.heap.size w _ ∧ _); refine (H1.out _ hS.1).mono ?_; rintro e wA ⟨gA, cA, rfl, oA, bA⟩; have cc := hS.call bA; have OA : Hid (FrRl wA (w.heap.size + 1 + 1) (.slice gA b.rs.length cA) b.rs) := FrL.base oA hS.2.1; have KA : Hid (Blk wA (w.heap.size + 1) 29 [.slice none 0 0, .slice none 0 0, .slice none 0 0]) := (by first | exact K1.out.below bA | exact Blk.below (w := W.drew) K1.out bA); clear oA bA)
      | (go_at_call 74; have hS : Cp w (.slice x1 b.rs.length c1) (.slice x2 b.es.length c2) (.slice x3 b.cs.length c3) _ := (by assumption : Below w.heap.size w _ ∧ _); refine (H2.out _ hS.1).mono ?_; rintro e wB ⟨gB, cB, rfl, oB, bB⟩; have cc := hS.call bB; have OB := Lib.hid (FrL.base oB hS.2.1); have OA2 : Hid (FrRl wB (w.heap.size + 1 + 1) (.slice gA b.rs.length cA) b.rs) := (by first | exact FrL.later OA.out bB | exact FrL.later (FrL.drew OA.out) bB); have KB : Hid (Blk wB (w.heap.size + 1) 29 [.slice none 0 0, .slice none 0 0, .slice none 0 0]) := (by first | exact KA.out.below bB | exact Blk.below (w := wA.drew) KA.out bB); clear oB bB)
      | (go_at_call 75; have hS : Cp w (.slice x1 b.rs.length c1) (.slice x2 b.es.length c2) (.slice x3 b.cs.length c3) _ := (by assumption : Below w.heap.size w _ ∧ _); refine (H3.out _ hS.1).mono ?_; rintro e wC ⟨gC, cC, rfl, oC, bC⟩; have cc := hS.call bC; have OC := Lib.hid (FrL.base oC hS.2.1); have OB2 := Lib.hid (by first | exact FrL.later OB.out bC | exact FrL.later (FrL.drew OB.out) bC); have OA3 := Lib.hid (by first | exact FrL.later OA2.out bC | exact FrL.later (FrL.drew OA2.out) bC); have KC : Hid (Blk wC (w.heap.size + 1) 29 [.slice none 0 0, .slice none 0 0, .slice none 0 0]) := (by first | exact KB.out.below bC | exact Blk.below (w := wB.drew) KB.out bC); obtain ⟨⟨r0, r1, r2⟩, f0, f1, f2⟩ := three_all KC.out; clear oC bC))
  all_goals
    go_wp2_with fail
    have hB3 := three_set KC.out (.slice gA b.rs.length cA) (.slice gB b.es.length cB) (.slice gC b.cs.length cC)
    obtain ⟨⟨q0, q1, q2⟩, -⟩ := three_all hB3
    refine bodyPost_ret (v := .agg #[.slice gA b.rs.length cA, .slice gB b.es.length cB, .slice gC b.cs.length cC]) (by simp [results, Tryz.results30, go_sem, q0, q1, q2]) rfl ⟨_, rfl, ?_, ?_⟩
    · have hb : w.heap.size ≤ w.heap.size + 1 + 1 := by omega
      have hl : w.heap.size + 1 < w.heap.size + 1 + 1 := by omega
      have o : OwF wC (w.heap.size + 1 + 1) (.agg #[.slice gA b.rs.length cA, .slice gB b.es.length cB, .slice gC b.cs.length cC]) b := ⟨_, _, _, _, _, _, rfl, OA3.out, OB2.out, OC.out⟩
      exact (((o.setCell hl _).setCell hl _).setCell hl _).base hb
    · exact (((cc.set _ _).set _ _).set _ _).1

end Go.Proofs.YtgfkiljkpkfapaaGreatDoor

/- BoxTurn of the program, at a box whose lists lie at any address. Conditions: as BoxOk. -/
namespace Go.Proofs.YtgfkiljkpkfapaaGreatDoor
open Go.RowKit Go.Sort

set_option maxRecDepth 100000 in
set_option maxHeartbeats 3200000 in
theorem implTurn_notG (B : Nat) (v : Value) (b : Bx) (sa sp da dp sq ak : Int) (d : ByteArray) (w : World) (hs : bxSz b) (hwf : wfE b.es) (hcw : cnWf b.cs) (ho : GBx w B v b) (hf : OwF w B v b) (hv : VarsOk w) (htb : TabOk w) (hno : boxOkB b = false) :
    Calls Tryz.prog 7 #[v, .agg #[.int .i64 sa, .int .i64 sp, .int .i64 da, .int .i64 dp, .int .i64 sq, .int .i64 ak, .string d]] w fun e w' => e = .returned (.tuple #[.agg #[.slice none 0 0, .slice none 0 0, .slice none 0 0], .agg ⟨zeroSg⟩, .bool false]) ∧ Below w.heap.size w w' := by
  have HO : Hid (∀ w', Below w.heap.size w w' → Calls Tryz.prog 16 #[v] w' fun e w'' => e = .returned (.bool false) ∧ Below w'.heap.size w' w'') := fun w' h => by
    rw [← hno]
    exact implBoxOk_anyG B v b w' hs hwf hcw (ho.later h) (hv.below h) (htb.below h (Nat.le_refl _))
  obtain ⟨a1, c1, a2, c2, a3, c3, rfl, o1, o2, o3⟩ := ho
  clear hf o1 o2 o3 hno hs hwf hcw hv htb
  have QN := Lib.hid (Q4.new w [.slice a1 b.rs.length c1, .slice a2 b.es.length c2, .slice a3 b.cs.length c3] [.int .i64 sa, .int .i64 sp, .int .i64 da, .int .i64 dp, .int .i64 sq, .int .i64 ak, .string d] [.slice none 0 0, .slice none 0 0, .slice none 0 0] zeroSg)
  go_enter Tryz.func7, Tryz.ntmps7
  go_wp2_with (go_at_call 16; refine (HO.out _ QN.out.1).mono ?_; rintro e w1 ⟨rfl, b1⟩; have Q1 := Lib.hid (QN.out.call b1); obtain ⟨⟨r0, r1, r2⟩, f0, f1, f2⟩ := three_all Q1.out.2.2.2.1; have Z1 : Hid (Blk w1 (w.heap.size + 1 + 1 + 1) 33 [.int .i64 0, .int .i64 0, .int .i64 0, .int .i64 0, .int .i64 0, .int .i64 0, .string ByteArray.empty]) := Q1.out.2.2.2.2; obtain ⟨q0, q1, q2, q3, q4, q5, q6⟩ := seven_all Z1.out; obtain ⟨h0, h1, h2, h3, h4, h5, h6⟩ := seven_froz Z1.out)
  obtain ⟨⟨y0, y1, y2⟩, -⟩ := three_all (put10_box Q1.out.2.2.2.1 (.slice none 0 0) (.slice none 0 0) (.slice none 0 0) (.int .i64 0) (.int .i64 0) (.int .i64 0) (.int .i64 0) (.int .i64 0) (.int .i64 0) (.string ByteArray.empty))
  obtain ⟨z0, z1, z2, z3, z4, z5, z6⟩ := seven_all (put10_seg Z1.out (.slice none 0 0) (.slice none 0 0) (.slice none 0 0) (.int .i64 0) (.int .i64 0) (.int .i64 0) (.int .i64 0) (.int .i64 0) (.int .i64 0) (.string ByteArray.empty))
  have hB := put10_below Q1.out.1 (Nat.le_refl _) (.slice none 0 0) (.slice none 0 0) (.slice none 0 0) (.int .i64 0) (.int .i64 0) (.int .i64 0) (.int .i64 0) (.int .i64 0) (.int .i64 0) (.string ByteArray.empty)
  have hK : ByteArray.empty = { data := #[] } := rfl
  rw [hK] at y0 y1 y2 z0 z1 z2 z3 z4 z5 z6 hB
  obtain ⟨W, hW⟩ : ∃ W, W = put10 w1 w.heap.size (.slice none 0 0) (.slice none 0 0) (.slice none 0 0) (.int .i64 0) (.int .i64 0) (.int .i64 0) (.int .i64 0) (.int .i64 0) (.int .i64 0) (.string { data := #[] }) := ⟨_, rfl⟩
  rw [← hW] at y0 y1 y2 z0 z1 z2 z3 z4 z5 z6 hB
  unfold put10 at hW
  rw [← hW]
  refine bodyPost_ret (v := .tuple #[.agg #[.slice none 0 0, .slice none 0 0, .slice none 0 0], .agg ⟨zeroSg⟩, .bool false]) (by simp [results, Tryz.results7, go_sem, zeroSg, hK, y0, y1, y2, z0, z1, z2, z3, z4, z5, z6]) rfl ⟨rfl, hB⟩

set_option maxRecDepth 100000 in
set_option maxHeartbeats 3200000 in
theorem implTurn_noG (B : Nat) (v : Value) (b : Bx) (sa sp da dp sq ak : Int) (d : ByteArray) (w : World) (hs : bxSz b) (hcw : cnWf b.cs) (ho : GBx w B v b) (hf : OwF w B v b) (hv : VarsOk w) (htb : TabOk w) (hok : boxOkB b = true) (hd : d.size ≤ 2097152) (wd : (Lit.int .i64 dp).wf = true)
    (hwf : wfE b.es) (hno : (segOkB ⟨sa, sp, da, dp, sq, ak, d.data.toList⟩ && insB sa sp && boxB da dp && (endI b.es dp).isSome) = false) :
    Calls Tryz.prog 7 #[v, .agg #[.int .i64 sa, .int .i64 sp, .int .i64 da, .int .i64 dp, .int .i64 sq, .int .i64 ak, .string d]] w fun e w' => ∃ u, e = .returned (.tuple #[u, .agg ⟨zeroSg⟩, .bool false]) ∧ OwF w' w.heap.size u b ∧ Below w.heap.size w w' := by
  have HO : Hid (∀ w', Below w.heap.size w w' → Calls Tryz.prog 16 #[v] w' fun e w'' => e = .returned (.bool true) ∧ Below w'.heap.size w' w'') := fun w' h => by
    rw [← hok]
    exact implBoxOk_anyG B v b w' hs hwf hcw (ho.later h) (hv.below h) (htb.below h (Nat.le_refl _))
  have HC : Hid (∀ w', Below w.heap.size w w' → Calls Tryz.prog 30 #[v] w' fun e w'' => ∃ u, e = .returned u ∧ OwF w'' w'.heap.size u b ∧ Below w'.heap.size w' w'') := fun w' h => implCopy_F B v b w' hs (hf.later h)
  obtain ⟨es, hes⟩ : ∃ es, es = b.es := ⟨_, rfl⟩
  rw [← hes] at hwf hno
  have hn : es.length ≤ 4194304 := by rw [hes]; have := hs.2.1; omega
  have HM : Hid (∀ t w', TabAt w' t es → Calls Tryz.prog 12 #[.agg #[t], .int .i64 dp] w' fun e w'' => e = .returned (endV (endI es dp)) ∧ Below w'.heap.size w' w'') := fun t w' h => implMapEnd_any t es dp w' hn hwf wd h
  obtain ⟨bS, hbS⟩ : ∃ bS, bS = segOkB ⟨sa, sp, da, dp, sq, ak, d.data.toList⟩ := ⟨_, rfl⟩
  have HS : Hid (∀ w', Calls Tryz.prog 31 #[.agg #[.int .i64 sa, .int .i64 sp, .int .i64 da, .int .i64 dp, .int .i64 sq, .int .i64 ak, .string d]] w' fun e w'' => e = .returned (.bool bS) ∧ Below w'.heap.size w' w'') := fun w' => by rw [hbS]; exact implSegOk_any sa sp da dp sq ak d w' hd
  obtain ⟨bI, hbI⟩ : ∃ bI, bI = insB sa sp := ⟨_, rfl⟩
  have HI : Hid (∀ w', Calls Tryz.prog 32 #[.agg #[.int .i64 sa, .int .i64 sp]] w' fun e w'' => e = .returned (.bool bI) ∧ Below w'.heap.size w' w'') := fun w' => by rw [hbI]; exact implInside_any sa sp w'
  obtain ⟨bB, hbB⟩ : ∃ bB, bB = boxB da dp := ⟨_, rfl⟩
  have HB : Hid (∀ w', Calls Tryz.prog 33 #[.agg #[.int .i64 da, .int .i64 dp]] w' fun e w'' => e = .returned (.bool bB) ∧ Below w'.heap.size w' w'') := fun w' => by rw [hbB]; exact isBox_any da dp w'
  rw [← hbS, ← hbI, ← hbB] at hno
  obtain ⟨ta, tp, has, hE⟩ := endV_form' (endI es dp)
  rw [hE] at HM
  have hhas : (endI es dp).isSome = has := by
    revert hE
    rcases endI es dp with _ | ⟨a', p'⟩ <;> intro hE <;> simp [endV] at hE ⊢ <;> exact hE.2
  rw [hhas] at hno
  obtain ⟨a1, c1, a2, c2, a3, c3, rfl, o1, o2, o3⟩ := ho
  subst hes
  clear hf o1 o2 o3 hok hs hwf hcw hv htb hd wd hn hbS hbI hbB hE hhas
  have QN := Lib.hid (Q4.new w [.slice a1 b.rs.length c1, .slice a2 b.es.length c2, .slice a3 b.cs.length c3] [.int .i64 sa, .int .i64 sp, .int .i64 da, .int .i64 dp, .int .i64 sq, .int .i64 ak, .string d] [.slice none 0 0, .slice none 0 0, .slice none 0 0] zeroSg)
  go_enter Tryz.func7, Tryz.ntmps7
  go_wp2_with (go_at_call 16; refine (HO.out _ QN.out.1).mono ?_; rintro e w1 ⟨rfl, b1⟩; have Q1 := Lib.hid (QN.out.call b1); obtain ⟨⟨p0, p1, p2⟩, -⟩ := three_all Q1.out.2.1; clear b1)
  (go_at_call 30; refine (HC.out _ Q1.out.1).mono ?_; rintro e w2 ⟨u, rfl, oU, bU⟩; obtain ⟨x1, d1, x2, d2, x3, d3, rfl, m1, m2, m3⟩ := oU)
  have Q2 := Q1.out.call bU
  have z1 : w.heap.size < w1.heap.size := by have := Q1.out.2.1.lt; omega
  have z4 : w.heap.size + 1 + 1 + 1 < w1.heap.size := Q1.out.2.2.2.2.lt
  have hz1 : w.heap.size ≤ w1.heap.size := by omega
  have OU : OwF w2 w1.heap.size (.agg #[.slice x1 b.rs.length d1, .slice x2 b.es.length d2, .slice x3 b.cs.length d3]) b := ⟨_, _, _, _, _, _, rfl, m1, m2, m3⟩
  clear m1 m2 m3 bU p0 p1 p2
  obtain ⟨⟨p0, p1, p2⟩, f0, f1, f2⟩ := three_all Q2.2.1
  have Q3 := Lib.hid (Q2.turn (.slice x1 b.rs.length d1) (.slice x2 b.es.length d2) (.slice x3 b.cs.length d3))
  have OU3 := Lib.hid (((OU.setCell (a := ⟨w.heap.size, 0, none⟩) z1 (.slice x1 b.rs.length d1)).setCell (a := ⟨w.heap.size, 1, none⟩) z1 (.slice x2 b.es.length d2)).setCell (a := ⟨w.heap.size, 2, none⟩) z1 (.slice x3 b.cs.length d3))
  have TT := Lib.hid (show TabAt (((w2.setCell ⟨w.heap.size, 0, none⟩ (.slice x1 b.rs.length d1)).setCell ⟨w.heap.size, 1, none⟩ (.slice x2 b.es.length d2)).setCell ⟨w.heap.size, 2, none⟩ (.slice x3 b.cs.length d3)) (.slice x2 b.es.length d2) b.es from by
    have h : FrTb w2 w1.heap.size (.slice x2 b.es.length d2) b.es := by
      obtain ⟨_, _, _, _, _, _, he, _, m2, _⟩ := OU
      simp only [Value.agg.injEq, Array.mk.injEq, List.cons.injEq, Value.slice.injEq] at he
      obtain ⟨-, ⟨e1, -, e2⟩, -⟩ := he
      rw [e1, e2]
      exact m2
    exact FrTb.tab (B := w1.heap.size) (FrL.setCell (FrL.setCell (FrL.setCell h z1 _) z1 _) z1 _))
  obtain ⟨s0, s1, s2, s3, s4, s5, s6⟩ := seven_all Q3.out.2.2.1
  clear OU Q2
  go_wp2_with fail
  (go_at_call 12; refine (HM.out _ _ TT.out).mono ?_; rintro e w3 ⟨rfl, b3⟩)
  have a3 : Below w3.heap.size w3 (w3.alloc (.cells #[.int .i64 ta, .int .i64 tp] 31)) := (Below.refl _ _).alloc (Nat.le_refl _) _
  have Q4 := Lib.hid ((Q3.out.call b3).call a3)
  have OU4 := Lib.hid ((OU3.out.later b3).later a3)
  have ZZ := Lib.hid z4
  have HZ := Lib.hid hz1
  clear OU3 TT Q3 b3 a3 s0 s1 s2 s3 s4 s5 s6 p0 p1 p2 f0 f1 f2 HM HC HO QN hz1 z4 z1
  obtain ⟨⟨p0, p1, p2⟩, -⟩ := three_all Q4.out.2.1
  obtain ⟨s0, s1, s2, s3, s4, s5, s6⟩ := seven_all Q4.out.2.2.1
  obtain ⟨⟨r0, r1, r2⟩, f0, f1, f2⟩ := three_all Q4.out.2.2.2.1
  obtain ⟨q0, q1, q2, q3, q4, q5, q6⟩ := seven_all (show Blk _ _ _ [.int .i64 0, .int .i64 0, .int .i64 0, .int .i64 0, .int .i64 0, .int .i64 0, .string ByteArray.empty] from Q4.out.2.2.2.2)
  obtain ⟨h0, h1, h2, h3, h4, h5, h6⟩ := seven_froz (show Blk _ _ _ [.int .i64 0, .int .i64 0, .int .i64 0, .int .i64 0, .int .i64 0, .int .i64 0, .string ByteArray.empty] from Q4.out.2.2.2.2)
  cases bS <;> cases bI <;> cases bB <;> cases has <;> first | (exact absurd hno (by decide)) | skip
  all_goals clear hno
  all_goals
    go_wp2_with (first
      | (go_at_call 31; refine (HS.out _).mono ?_; rintro e w5 ⟨rfl, b5⟩; have Q5 := Lib.hid (Q4.out.call b5); have OU5 := Lib.hid (OU4.out.later b5); clear b5 p0 p1 p2 s0 s1 s2 s3 s4 s5 s6 r0 r1 r2 f0 f1 f2 q0 q1 q2 q3 q4 q5 q6 h0 h1 h2 h3 h4 h5 h6; obtain ⟨⟨p0, p1, p2⟩, -⟩ := three_all Q5.out.2.1; obtain ⟨s0, s1, s2, s3, s4, s5, s6⟩ := seven_all Q5.out.2.2.1; obtain ⟨⟨r0, r1, r2⟩, f0, f1, f2⟩ := three_all Q5.out.2.2.2.1; obtain ⟨q0, q1, q2, q3, q4, q5, q6⟩ := seven_all (show Blk _ _ _ [.int .i64 0, .int .i64 0, .int .i64 0, .int .i64 0, .int .i64 0, .int .i64 0, .string ByteArray.empty] from Q5.out.2.2.2.2); obtain ⟨h0, h1, h2, h3, h4, h5, h6⟩ := seven_froz (show Blk _ _ _ [.int .i64 0, .int .i64 0, .int .i64 0, .int .i64 0, .int .i64 0, .int .i64 0, .string ByteArray.empty] from Q5.out.2.2.2.2))
      | (go_at_call 32; refine (HI.out _).mono ?_; rintro e w6 ⟨rfl, b6⟩; have Q6 := Lib.hid (Q5.out.call b6); have OU6 := Lib.hid (OU5.out.later b6); clear b6 p0 p1 p2 s0 s1 s2 s3 s4 s5 s6 r0 r1 r2 f0 f1 f2 q0 q1 q2 q3 q4 q5 q6 h0 h1 h2 h3 h4 h5 h6; obtain ⟨⟨p0, p1, p2⟩, -⟩ := three_all Q6.out.2.1; obtain ⟨s0, s1, s2, s3, s4, s5, s6⟩ := seven_all Q6.out.2.2.1; obtain ⟨⟨r0, r1, r2⟩, f0, f1, f2⟩ := three_all Q6.out.2.2.2.1; obtain ⟨q0, q1, q2, q3, q4, q5, q6⟩ := seven_all (show Blk _ _ _ [.int .i64 0, .int .i64 0, .int .i64 0, .int .i64 0, .int .i64 0, .int .i64 0, .string ByteArray.empty] from Q6.out.2.2.2.2); obtain ⟨h0, h1, h2, h3, h4, h5, h6⟩ := seven_froz (show Blk _ _ _ [.int .i64 0, .int .i64 0, .int .i64 0, .int .i64 0, .int .i64 0, .int .i64 0, .string ByteArray.empty] from Q6.out.2.2.2.2))
      | (go_at_call 33; refine (HB.out _).mono ?_; rintro e w7 ⟨rfl, b7⟩; have Q7 := Lib.hid (Q6.out.call b7); have OU7 := Lib.hid (OU6.out.later b7); clear b7 p0 p1 p2 s0 s1 s2 s3 s4 s5 s6 r0 r1 r2 f0 f1 f2 q0 q1 q2 q3 q4 q5 q6 h0 h1 h2 h3 h4 h5 h6; obtain ⟨⟨p0, p1, p2⟩, -⟩ := three_all Q7.out.2.1; obtain ⟨s0, s1, s2, s3, s4, s5, s6⟩ := seven_all Q7.out.2.2.1; obtain ⟨⟨r0, r1, r2⟩, f0, f1, f2⟩ := three_all Q7.out.2.2.2.1; obtain ⟨q0, q1, q2, q3, q4, q5, q6⟩ := seven_all (show Blk _ _ _ [.int .i64 0, .int .i64 0, .int .i64 0, .int .i64 0, .int .i64 0, .int .i64 0, .string ByteArray.empty] from Q7.out.2.2.2.2); obtain ⟨h0, h1, h2, h3, h4, h5, h6⟩ := seven_froz (show Blk _ _ _ [.int .i64 0, .int .i64 0, .int .i64 0, .int .i64 0, .int .i64 0, .int .i64 0, .string ByteArray.empty] from Q7.out.2.2.2.2)))
    first
    | (obtain ⟨⟨y0, y1, y2⟩, -⟩ := three_all (put10_box Q7.out.2.2.2.1 (.slice x1 b.rs.length d1) (.slice x2 b.es.length d2) (.slice x3 b.cs.length d3) (.int .i64 0) (.int .i64 0) (.int .i64 0) (.int .i64 0) (.int .i64 0) (.int .i64 0) (.string ByteArray.empty))
       obtain ⟨z0, z1, z2, z3, z4, z5, z6⟩ := seven_all (put10_seg (show Blk _ _ _ [.int .i64 0, .int .i64 0, .int .i64 0, .int .i64 0, .int .i64 0, .int .i64 0, .string ByteArray.empty] from Q7.out.2.2.2.2) (.slice x1 b.rs.length d1) (.slice x2 b.es.length d2) (.slice x3 b.cs.length d3) (.int .i64 0) (.int .i64 0) (.int .i64 0) (.int .i64 0) (.int .i64 0) (.int .i64 0) (.string ByteArray.empty))
       have hB := put10_below Q7.out.1 (Nat.le_refl _) (.slice x1 b.rs.length d1) (.slice x2 b.es.length d2) (.slice x3 b.cs.length d3) (.int .i64 0) (.int .i64 0) (.int .i64 0) (.int .i64 0) (.int .i64 0) (.int .i64 0) (.string ByteArray.empty)
       have hO := put10_ownF OU7.out ZZ.out (.slice x1 b.rs.length d1) (.slice x2 b.es.length d2) (.slice x3 b.cs.length d3) (.int .i64 0) (.int .i64 0) (.int .i64 0) (.int .i64 0) (.int .i64 0) (.int .i64 0) (.string ByteArray.empty)
       have hK : ByteArray.empty = { data := #[] } := rfl
       rw [hK] at y0 y1 y2 z0 z1 z2 z3 z4 z5 z6 hB hO
       obtain ⟨W, hW⟩ : ∃ W, W = put10 w7 w.heap.size (.slice x1 b.rs.length d1) (.slice x2 b.es.length d2) (.slice x3 b.cs.length d3) (.int .i64 0) (.int .i64 0) (.int .i64 0) (.int .i64 0) (.int .i64 0) (.int .i64 0) (.string { data := #[] }) := ⟨_, rfl⟩
       rw [← hW] at y0 y1 y2 z0 z1 z2 z3 z4 z5 z6 hB hO
       unfold put10 at hW
       rw [← hW]
       refine bodyPost_ret (v := .tuple #[.agg #[.slice x1 b.rs.length d1, .slice x2 b.es.length d2, .slice x3 b.cs.length d3], .agg ⟨zeroSg⟩, .bool false]) (by simp [results, Tryz.results7, go_sem, zeroSg, hK, y0, y1, y2, z0, z1, z2, z3, z4, z5, z6]) rfl ⟨_, rfl, hO.base HZ.out, hB⟩)
    | (obtain ⟨⟨y0, y1, y2⟩, -⟩ := three_all (put10_box Q6.out.2.2.2.1 (.slice x1 b.rs.length d1) (.slice x2 b.es.length d2) (.slice x3 b.cs.length d3) (.int .i64 0) (.int .i64 0) (.int .i64 0) (.int .i64 0) (.int .i64 0) (.int .i64 0) (.string ByteArray.empty))
       obtain ⟨z0, z1, z2, z3, z4, z5, z6⟩ := seven_all (put10_seg (show Blk _ _ _ [.int .i64 0, .int .i64 0, .int .i64 0, .int .i64 0, .int .i64 0, .int .i64 0, .string ByteArray.empty] from Q6.out.2.2.2.2) (.slice x1 b.rs.length d1) (.slice x2 b.es.length d2) (.slice x3 b.cs.length d3) (.int .i64 0) (.int .i64 0) (.int .i64 0) (.int .i64 0) (.int .i64 0) (.int .i64 0) (.string ByteArray.empty))
       have hB := put10_below Q6.out.1 (Nat.le_refl _) (.slice x1 b.rs.length d1) (.slice x2 b.es.length d2) (.slice x3 b.cs.length d3) (.int .i64 0) (.int .i64 0) (.int .i64 0) (.int .i64 0) (.int .i64 0) (.int .i64 0) (.string ByteArray.empty)
       have hO := put10_ownF OU6.out ZZ.out (.slice x1 b.rs.length d1) (.slice x2 b.es.length d2) (.slice x3 b.cs.length d3) (.int .i64 0) (.int .i64 0) (.int .i64 0) (.int .i64 0) (.int .i64 0) (.int .i64 0) (.string ByteArray.empty)
       have hK : ByteArray.empty = { data := #[] } := rfl
       rw [hK] at y0 y1 y2 z0 z1 z2 z3 z4 z5 z6 hB hO
       obtain ⟨W, hW⟩ : ∃ W, W = put10 w6 w.heap.size (.slice x1 b.rs.length d1) (.slice x2 b.es.length d2) (.slice x3 b.cs.length d3) (.int .i64 0) (.int .i64 0) (.int .i64 0) (.int .i64 0) (.int .i64 0) (.int .i64 0) (.string { data := #[] }) := ⟨_, rfl⟩
       rw [← hW] at y0 y1 y2 z0 z1 z2 z3 z4 z5 z6 hB hO
       unfold put10 at hW
       rw [← hW]
       refine bodyPost_ret (v := .tuple #[.agg #[.slice x1 b.rs.length d1, .slice x2 b.es.length d2, .slice x3 b.cs.length d3], .agg ⟨zeroSg⟩, .bool false]) (by simp [results, Tryz.results7, go_sem, zeroSg, hK, y0, y1, y2, z0, z1, z2, z3, z4, z5, z6]) rfl ⟨_, rfl, hO.base HZ.out, hB⟩)
    | (obtain ⟨⟨y0, y1, y2⟩, -⟩ := three_all (put10_box Q5.out.2.2.2.1 (.slice x1 b.rs.length d1) (.slice x2 b.es.length d2) (.slice x3 b.cs.length d3) (.int .i64 0) (.int .i64 0) (.int .i64 0) (.int .i64 0) (.int .i64 0) (.int .i64 0) (.string ByteArray.empty))
       obtain ⟨z0, z1, z2, z3, z4, z5, z6⟩ := seven_all (put10_seg (show Blk _ _ _ [.int .i64 0, .int .i64 0, .int .i64 0, .int .i64 0, .int .i64 0, .int .i64 0, .string ByteArray.empty] from Q5.out.2.2.2.2) (.slice x1 b.rs.length d1) (.slice x2 b.es.length d2) (.slice x3 b.cs.length d3) (.int .i64 0) (.int .i64 0) (.int .i64 0) (.int .i64 0) (.int .i64 0) (.int .i64 0) (.string ByteArray.empty))
       have hB := put10_below Q5.out.1 (Nat.le_refl _) (.slice x1 b.rs.length d1) (.slice x2 b.es.length d2) (.slice x3 b.cs.length d3) (.int .i64 0) (.int .i64 0) (.int .i64 0) (.int .i64 0) (.int .i64 0) (.int .i64 0) (.string ByteArray.empty)
       have hO := put10_ownF OU5.out ZZ.out (.slice x1 b.rs.length d1) (.slice x2 b.es.length d2) (.slice x3 b.cs.length d3) (.int .i64 0) (.int .i64 0) (.int .i64 0) (.int .i64 0) (.int .i64 0) (.int .i64 0) (.string ByteArray.empty)
       have hK : ByteArray.empty = { data := #[] } := rfl
       rw [hK] at y0 y1 y2 z0 z1 z2 z3 z4 z5 z6 hB hO
       obtain ⟨W, hW⟩ : ∃ W, W = put10 w5 w.heap.size (.slice x1 b.rs.length d1) (.slice x2 b.es.length d2) (.slice x3 b.cs.length d3) (.int .i64 0) (.int .i64 0) (.int .i64 0) (.int .i64 0) (.int .i64 0) (.int .i64 0) (.string { data := #[] }) := ⟨_, rfl⟩
       rw [← hW] at y0 y1 y2 z0 z1 z2 z3 z4 z5 z6 hB hO
       unfold put10 at hW
       rw [← hW]
       refine bodyPost_ret (v := .tuple #[.agg #[.slice x1 b.rs.length d1, .slice x2 b.es.length d2, .slice x3 b.cs.length d3], .agg ⟨zeroSg⟩, .bool false]) (by simp [results, Tryz.results7, go_sem, zeroSg, hK, y0, y1, y2, z0, z1, z2, z3, z4, z5, z6]) rfl ⟨_, rfl, hO.base HZ.out, hB⟩)

set_option maxRecDepth 100000 in
set_option maxHeartbeats 3200000 in
theorem implTurn_yesG (B : Nat) (v : Value) (b : Bx) (sa sp da dp sq ak : Int) (d : ByteArray) (w : World) (hs : bxSz b) (hcw : cnWf b.cs) (ho : GBx w B v b) (hf : OwF w B v b) (hv : VarsOk w) (htb : TabOk w) (hok : boxOkB b = true) (hd : d.size ≤ 2097152) (wd : (Lit.int .i64 dp).wf = true)
    (hwf : wfE b.es) (ta tp : Int) (hgo : (segOkB ⟨sa, sp, da, dp, sq, ak, d.data.toList⟩ && insB sa sp && boxB da dp) = true) (hE : endI b.es dp = some (ta, tp)) :
    Calls Tryz.prog 7 #[v, .agg #[.int .i64 sa, .int .i64 sp, .int .i64 da, .int .i64 dp, .int .i64 sq, .int .i64 ak, .string d]] w fun e w' => ∃ u, e = .returned (.tuple #[u, if (putE b.es (sa, sp)).2 = 0 then .agg ⟨zeroSg⟩ else .agg #[.int .i64 50, .int .i64 (putE b.es (sa, sp)).2, .int .i64 ta, .int .i64 tp, .int .i64 sq, .int .i64 ak, .string d], .bool (decide ((putE b.es (sa, sp)).2 ≠ 0))]) ∧ OwF w' w.heap.size u ⟨b.rs, (putE b.es (sa, sp)).1, b.cs⟩ ∧ Below w.heap.size w w' := by
  have hgo' : segOkB ⟨sa, sp, da, dp, sq, ak, d.data.toList⟩ = true ∧ insB sa sp = true ∧ boxB da dp = true := by simpa [Bool.and_eq_true, and_assoc] using hgo
  obtain ⟨gS, gI, gB⟩ := hgo'
  have gM : mapB b.es = true := by
    unfold boxOkB at hok
    simp only [Bool.and_eq_true] at hok
    exact hok.1.1.1
  have HO : Hid (∀ w', Below w.heap.size w w' → Calls Tryz.prog 16 #[v] w' fun e w'' => e = .returned (.bool true) ∧ Below w'.heap.size w' w'') := fun w' h => by
    rw [← hok]
    exact implBoxOk_anyG B v b w' hs hwf hcw (ho.later h) (hv.below h) (htb.below h (Nat.le_refl _))
  have HC : Hid (∀ w', Below w.heap.size w w' → Calls Tryz.prog 30 #[v] w' fun e w'' => ∃ u, e = .returned u ∧ OwF w'' w'.heap.size u b ∧ Below w'.heap.size w' w'') := fun w' h => implCopy_F B v b w' hs (hf.later h)
  obtain ⟨es, hes⟩ : ∃ es, es = b.es := ⟨_, rfl⟩
  rw [← hes] at hwf hE
  have hn : es.length ≤ 4194304 := by rw [hes]; have := hs.2.1; omega
  have HM : Hid (∀ t w', TabAt w' t es → Calls Tryz.prog 12 #[.agg #[t], .int .i64 dp] w' fun e w'' => e = .returned (.tuple #[.agg #[.int .i64 ta, .int .i64 tp], .bool true]) ∧ Below w'.heap.size w' w'') := fun t w' h => by have := implMapEnd_any t es dp w' hn hwf wd h; rwa [hE] at this
  have HS : Hid (∀ w', Calls Tryz.prog 31 #[.agg #[.int .i64 sa, .int .i64 sp, .int .i64 da, .int .i64 dp, .int .i64 sq, .int .i64 ak, .string d]] w' fun e w'' => e = .returned (.bool true) ∧ Below w'.heap.size w' w'') := fun w' => by rw [← gS]; exact implSegOk_any sa sp da dp sq ak d w' hd
  have HI : Hid (∀ w', Calls Tryz.prog 32 #[.agg #[.int .i64 sa, .int .i64 sp]] w' fun e w'' => e = .returned (.bool true) ∧ Below w'.heap.size w' w'') := fun w' => by rw [← gI]; exact implInside_any sa sp w'
  have HB : Hid (∀ w', Calls Tryz.prog 33 #[.agg #[.int .i64 da, .int .i64 dp]] w' fun e w'' => e = .returned (.bool true) ∧ Below w'.heap.size w' w'') := fun w' => by rw [← gB]; exact isBox_any da dp w'
  obtain ⟨us, hus⟩ : ∃ us, us = (putE b.es (sa, sp)).1 := ⟨_, rfl⟩
  obtain ⟨q, hq⟩ : ∃ q, q = (putE b.es (sa, sp)).2 := ⟨_, rfl⟩
  rw [← hus, ← hq]
  have HP : Hid (∀ g y1 t y3 w', Blk w' g 29 [y1, t, y3] → TabAt w' t es → Calls Tryz.prog 34 #[.pointer (some ⟨g, 0, none⟩), .agg #[.int .i64 sa, .int .i64 sp]] w' fun e w'' => e = .returned (.int .i64 q) ∧
      ∃ g' c' w1, Below w'.heap.size w' w1 ∧ OwnTab w1 w'.heap.size (.slice g' us.length c') us ∧ w'' = w1.setCell ⟨g, 1, none⟩ (.slice g' us.length c')) := fun g y1 t y3 w' h1 h2 => by rw [hus, hq, ← hes]; exact implSend_any g y1 t y3 es sa sp w' h1 h2 (by rw [hes]; exact gM) gI
  have hne : 0 < us.length := by
    rw [hus]
    exact putE_pos _ _
  have GM := Lib.hid hne
  clear hne gM gS gI gB hgo hE hus hq
  obtain ⟨a1, c1, a2, c2, a3, c3, rfl, o1, o2, o3⟩ := ho
  subst hes
  clear hf o1 o2 o3 hok hs hwf hcw hv htb hd wd hn
  have QN := Lib.hid (Q4.new w [.slice a1 b.rs.length c1, .slice a2 b.es.length c2, .slice a3 b.cs.length c3] [.int .i64 sa, .int .i64 sp, .int .i64 da, .int .i64 dp, .int .i64 sq, .int .i64 ak, .string d] [.slice none 0 0, .slice none 0 0, .slice none 0 0] zeroSg)
  go_enter Tryz.func7, Tryz.ntmps7
  go_wp2_with (go_at_call 16; refine (HO.out _ QN.out.1).mono ?_; rintro e w1 ⟨rfl, b1⟩; have Q1 := Lib.hid (QN.out.call b1); obtain ⟨⟨p0, p1, p2⟩, -⟩ := three_all Q1.out.2.1; clear b1)
  (go_at_call 30; refine (HC.out _ Q1.out.1).mono ?_; rintro e w2 ⟨u, rfl, oU, bU⟩; obtain ⟨x1, d1, x2, d2, x3, d3, rfl, m1, m2, m3⟩ := oU)
  have Q2 := Q1.out.call bU
  have z1 : w.heap.size < w1.heap.size := by have := Q1.out.2.1.lt; omega
  have z4 : w.heap.size + 1 + 1 + 1 < w1.heap.size := Q1.out.2.2.2.2.lt
  have hz1 : w.heap.size ≤ w1.heap.size := by omega
  have OU : OwF w2 w1.heap.size (.agg #[.slice x1 b.rs.length d1, .slice x2 b.es.length d2, .slice x3 b.cs.length d3]) b := ⟨_, _, _, _, _, _, rfl, m1, m2, m3⟩
  have zU := bU.size
  clear m1 m2 m3 bU p0 p1 p2
  obtain ⟨⟨p0, p1, p2⟩, f0, f1, f2⟩ := three_all Q2.2.1
  have Q3 := Lib.hid (Q2.turn (.slice x1 b.rs.length d1) (.slice x2 b.es.length d2) (.slice x3 b.cs.length d3))
  have OU3 := Lib.hid (((OU.setCell (a := ⟨w.heap.size, 0, none⟩) z1 (.slice x1 b.rs.length d1)).setCell (a := ⟨w.heap.size, 1, none⟩) z1 (.slice x2 b.es.length d2)).setCell (a := ⟨w.heap.size, 2, none⟩) z1 (.slice x3 b.cs.length d3))
  have TT := Lib.hid (show TabAt (((w2.setCell ⟨w.heap.size, 0, none⟩ (.slice x1 b.rs.length d1)).setCell ⟨w.heap.size, 1, none⟩ (.slice x2 b.es.length d2)).setCell ⟨w.heap.size, 2, none⟩ (.slice x3 b.cs.length d3)) (.slice x2 b.es.length d2) b.es from by
    have h : FrTb w2 w1.heap.size (.slice x2 b.es.length d2) b.es := by
      obtain ⟨_, _, _, _, _, _, he, _, m2, _⟩ := OU
      simp only [Value.agg.injEq, Array.mk.injEq, List.cons.injEq, Value.slice.injEq] at he
      obtain ⟨-, ⟨e1, -, e2⟩, -⟩ := he
      rw [e1, e2]
      exact m2
    exact FrTb.tab (B := w1.heap.size) (FrL.setCell (FrL.setCell (FrL.setCell h z1 _) z1 _) z1 _))
  obtain ⟨s0, s1, s2, s3, s4, s5, s6⟩ := seven_all Q3.out.2.2.1
  clear OU Q2
  go_wp2_with fail
  (go_at_call 12; refine (HM.out _ _ TT.out).mono ?_; rintro e w3 ⟨rfl, b3⟩)
  have a3 : Below w3.heap.size w3 (w3.alloc (.cells #[.int .i64 ta, .int .i64 tp] 31)) := (Below.refl _ _).alloc (Nat.le_refl _) _
  have K4 : Hid (Blk (w3.alloc (.cells #[.int .i64 ta, .int .i64 tp] 31)) w3.heap.size 31 [.int .i64 ta, .int .i64 tp]) := heap_last3 w3 _
  have Q4 := Lib.hid ((Q3.out.call b3).call a3)
  have OU4 := Lib.hid ((OU3.out.later b3).later a3)
  have TT4 := Lib.hid ((TT.out.below b3).below a3)
  have ZZ := Lib.hid z4
  have HZ := Lib.hid hz1
  have zw : w.heap.size + 1 + 1 + 1 < w3.heap.size := by
    have := (Q3.out.call b3).2.2.2.2.lt
    exact this
  have ZW := Lib.hid zw
  have SZ4 : Hid (w1.heap.size ≤ (w3.alloc (.cells #[.int .i64 ta, .int .i64 tp] 31)).heap.size) := by
    have e1 := b3.size
    have e2 := a3.size
    simp only [World.setCell, Array.size_modify] at e1
    exact Nat.le_trans zU (Nat.le_trans e1 e2)
  clear OU3 TT Q3 b3 a3 zw s0 s1 s2 s3 s4 s5 s6 p0 p1 p2 f0 f1 f2 HM HC HO QN hz1 z4 z1 zU
  obtain ⟨⟨p0, p1, p2⟩, -⟩ := three_all Q4.out.2.1
  obtain ⟨s0, s1, s2, s3, s4, s5, s6⟩ := seven_all Q4.out.2.2.1
  obtain ⟨⟨r0, r1, r2⟩, f0, f1, f2⟩ := three_all Q4.out.2.2.2.1
  obtain ⟨q0, q1, q2, q3, q4, q5, q6⟩ := seven_all (show Blk _ _ _ [.int .i64 0, .int .i64 0, .int .i64 0, .int .i64 0, .int .i64 0, .int .i64 0, .string ByteArray.empty] from Q4.out.2.2.2.2)
  obtain ⟨h0, h1, h2, h3, h4, h5, h6⟩ := seven_froz (show Blk _ _ _ [.int .i64 0, .int .i64 0, .int .i64 0, .int .i64 0, .int .i64 0, .int .i64 0, .string ByteArray.empty] from Q4.out.2.2.2.2)
  go_wp2_with (first
      | (go_at_call 31; refine (HS.out _).mono ?_; rintro e w5 ⟨rfl, b5⟩; have Q5 := Lib.hid (Q4.out.call b5); have TT5 := Lib.hid (TT4.out.below b5); have OU5 := Lib.hid (OU4.out.later b5); have SZ5 := Lib.hid (Nat.le_trans SZ4.out b5.size); have K5 := Lib.hid (K4.out.below b5); clear b5 p0 p1 p2 s0 s1 s2 s3 s4 s5 s6 r0 r1 r2 f0 f1 f2 q0 q1 q2 q3 q4 q5 q6 h0 h1 h2 h3 h4 h5 h6; obtain ⟨⟨p0, p1, p2⟩, -⟩ := three_all Q5.out.2.1; obtain ⟨s0, s1, s2, s3, s4, s5, s6⟩ := seven_all Q5.out.2.2.1; obtain ⟨⟨r0, r1, r2⟩, f0, f1, f2⟩ := three_all Q5.out.2.2.2.1; obtain ⟨q0, q1, q2, q3, q4, q5, q6⟩ := seven_all (show Blk _ _ _ [.int .i64 0, .int .i64 0, .int .i64 0, .int .i64 0, .int .i64 0, .int .i64 0, .string ByteArray.empty] from Q5.out.2.2.2.2); obtain ⟨h0, h1, h2, h3, h4, h5, h6⟩ := seven_froz (show Blk _ _ _ [.int .i64 0, .int .i64 0, .int .i64 0, .int .i64 0, .int .i64 0, .int .i64 0, .string ByteArray.empty] from Q5.out.2.2.2.2))
      | (go_at_call 32; refine (HI.out _).mono ?_; rintro e w6 ⟨rfl, b6⟩; have Q6 := Lib.hid (Q5.out.call b6); have TT6 := Lib.hid (TT5.out.below b6); have OU6 := Lib.hid (OU5.out.later b6); have SZ6 := Lib.hid (Nat.le_trans SZ5.out b6.size); have K6 := Lib.hid (K5.out.below b6); clear b6 p0 p1 p2 s0 s1 s2 s3 s4 s5 s6 r0 r1 r2 f0 f1 f2 q0 q1 q2 q3 q4 q5 q6 h0 h1 h2 h3 h4 h5 h6; obtain ⟨⟨p0, p1, p2⟩, -⟩ := three_all Q6.out.2.1; obtain ⟨s0, s1, s2, s3, s4, s5, s6⟩ := seven_all Q6.out.2.2.1; obtain ⟨⟨r0, r1, r2⟩, f0, f1, f2⟩ := three_all Q6.out.2.2.2.1; obtain ⟨q0, q1, q2, q3, q4, q5, q6⟩ := seven_all (show Blk _ _ _ [.int .i64 0, .int .i64 0, .int .i64 0, .int .i64 0, .int .i64 0, .int .i64 0, .string ByteArray.empty] from Q6.out.2.2.2.2); obtain ⟨h0, h1, h2, h3, h4, h5, h6⟩ := seven_froz (show Blk _ _ _ [.int .i64 0, .int .i64 0, .int .i64 0, .int .i64 0, .int .i64 0, .int .i64 0, .string ByteArray.empty] from Q6.out.2.2.2.2))
      | (go_at_call 33; refine (HB.out _).mono ?_; rintro e w7 ⟨rfl, b7⟩; have Q7 := Lib.hid (Q6.out.call b7); have TT7 := Lib.hid (TT6.out.below b7); have OU7 := Lib.hid (OU6.out.later b7); have SZ7 := Lib.hid (Nat.le_trans SZ6.out b7.size); have K7 := Lib.hid (K6.out.below b7); clear b7 p0 p1 p2 s0 s1 s2 s3 s4 s5 s6 r0 r1 r2 f0 f1 f2 q0 q1 q2 q3 q4 q5 q6 h0 h1 h2 h3 h4 h5 h6; obtain ⟨⟨p0, p1, p2⟩, -⟩ := three_all Q7.out.2.1; obtain ⟨s0, s1, s2, s3, s4, s5, s6⟩ := seven_all Q7.out.2.2.1; obtain ⟨⟨r0, r1, r2⟩, f0, f1, f2⟩ := three_all Q7.out.2.2.2.1; obtain ⟨q0, q1, q2, q3, q4, q5, q6⟩ := seven_all (show Blk _ _ _ [.int .i64 0, .int .i64 0, .int .i64 0, .int .i64 0, .int .i64 0, .int .i64 0, .string ByteArray.empty] from Q7.out.2.2.2.2); obtain ⟨h0, h1, h2, h3, h4, h5, h6⟩ := seven_froz (show Blk _ _ _ [.int .i64 0, .int .i64 0, .int .i64 0, .int .i64 0, .int .i64 0, .int .i64 0, .string ByteArray.empty] from Q7.out.2.2.2.2)))
  (go_at_call 34; refine (HP.out _ _ _ _ _ Q7.out.2.1 TT7.out).mono ?_; rintro e w8 ⟨rfl, g8, c8, w9, b9, o9, rfl⟩)
  have hz9 : w.heap.size < w1.heap.size := by have := ZZ.out; omega
  have hpos := GM.out
  have OU10 : Hid (OwF (w9.setCell ⟨w.heap.size, 1, none⟩ (.slice g8 us.length c8)) w1.heap.size (.agg #[.slice x1 b.rs.length d1, .slice g8 us.length c8, .slice x3 b.cs.length d3]) ⟨b.rs, us, b.cs⟩) := by
    obtain ⟨g, cap, hv, -⟩ := own_someform o9 (by intro h; simp only [Value.slice.injEq] at h; omega)
    simp only [Value.slice.injEq] at hv
    obtain ⟨rfl, -, rfl⟩ := hv
    obtain ⟨_, _, _, _, _, _, he, m1, m2, m3⟩ := OU7.out.later b9
    simp only [Value.agg.injEq, Array.mk.injEq, List.cons.injEq, Value.slice.injEq] at he
    obtain ⟨⟨e1, -, e2⟩, -, ⟨e3, -, e4⟩, -⟩ := he
    subst e1 e2 e3 e4
    exact OwF.setCell (a := ⟨w.heap.size, 1, none⟩) (show OwF w9 w1.heap.size _ ⟨b.rs, us, b.cs⟩ from ⟨_, _, _, _, _, _, rfl, m1, FrL.own (own_ends (OwnTab.mono o9 SZ7.out)), m3⟩) hz9 _
  have K10 := Lib.hid ((K7.out.below b9).far (a := ⟨w.heap.size, 1, none⟩) (by have := ZW.out; simp; omega) (.slice g8 us.length c8))
  have Q10 := Lib.hid ((Q7.out.call b9).table (.slice g8 us.length c8))
  obtain ⟨w10, hw10⟩ : ∃ w10, w10 = w9.setCell ⟨w.heap.size, 1, none⟩ (.slice g8 us.length c8) := ⟨_, rfl⟩
  rw [← hw10] at OU10 K10 Q10
  rw [← hw10]
  clear hw10 o9 b9 hpos OU7 Q7 K7 TT7 SZ7 GM HP HS HI HB hz9 p0 p1 p2 s0 s1 s2 s3 s4 s5 s6 r0 r1 r2 f0 f1 f2 q0 q1 q2 q3 q4 q5 q6 h0 h1 h2 h3 h4 h5 h6
  obtain ⟨⟨p0, p1, p2⟩, -⟩ := three_all Q10.out.2.1
  obtain ⟨s0, s1, s2, s3, s4, s5, s6⟩ := seven_all Q10.out.2.2.1
  obtain ⟨⟨r0, r1, r2⟩, f0, f1, f2⟩ := three_all Q10.out.2.2.2.1
  obtain ⟨q0, q1, q2, q3, q4, q5, q6⟩ := seven_all (show Blk _ _ _ [.int .i64 0, .int .i64 0, .int .i64 0, .int .i64 0, .int .i64 0, .int .i64 0, .string ByteArray.empty] from Q10.out.2.2.2.2)
  obtain ⟨h0, h1, h2, h3, h4, h5, h6⟩ := seven_froz (show Blk _ _ _ [.int .i64 0, .int .i64 0, .int .i64 0, .int .i64 0, .int .i64 0, .int .i64 0, .string ByteArray.empty] from Q10.out.2.2.2.2)
  by_cases h0q : q = 0
  · subst h0q
    go_wp2_with fail
    first
    | (obtain ⟨⟨y0, y1, y2⟩, -⟩ := three_all (put10_box Q10.out.2.2.2.1 (.slice x1 b.rs.length d1) (.slice g8 us.length c8) (.slice x3 b.cs.length d3) (.int .i64 0) (.int .i64 0) (.int .i64 0) (.int .i64 0) (.int .i64 0) (.int .i64 0) (.string ByteArray.empty))
       obtain ⟨z0, z1, z2, z3, z4, z5, z6⟩ := seven_all (put10_seg (show Blk _ _ _ [.int .i64 0, .int .i64 0, .int .i64 0, .int .i64 0, .int .i64 0, .int .i64 0, .string ByteArray.empty] from Q10.out.2.2.2.2) (.slice x1 b.rs.length d1) (.slice g8 us.length c8) (.slice x3 b.cs.length d3) (.int .i64 0) (.int .i64 0) (.int .i64 0) (.int .i64 0) (.int .i64 0) (.int .i64 0) (.string ByteArray.empty))
       have hB := put10_below Q10.out.1 (Nat.le_refl _) (.slice x1 b.rs.length d1) (.slice g8 us.length c8) (.slice x3 b.cs.length d3) (.int .i64 0) (.int .i64 0) (.int .i64 0) (.int .i64 0) (.int .i64 0) (.int .i64 0) (.string ByteArray.empty)
       have hO := put10_ownF OU10.out ZZ.out (.slice x1 b.rs.length d1) (.slice g8 us.length c8) (.slice x3 b.cs.length d3) (.int .i64 0) (.int .i64 0) (.int .i64 0) (.int .i64 0) (.int .i64 0) (.int .i64 0) (.string ByteArray.empty)
       have hK : ByteArray.empty = { data := #[] } := rfl
       rw [hK] at y0 y1 y2 z0 z1 z2 z3 z4 z5 z6 hB hO
       obtain ⟨W, hW⟩ : ∃ W, W = put10 w10 w.heap.size (.slice x1 b.rs.length d1) (.slice g8 us.length c8) (.slice x3 b.cs.length d3) (.int .i64 0) (.int .i64 0) (.int .i64 0) (.int .i64 0) (.int .i64 0) (.int .i64 0) (.string { data := #[] }) := ⟨_, rfl⟩
       rw [← hW] at y0 y1 y2 z0 z1 z2 z3 z4 z5 z6 hB hO
       unfold put10 at hW
       rw [← hW]
       refine bodyPost_ret (v := .tuple #[.agg #[.slice x1 b.rs.length d1, .slice g8 us.length c8, .slice x3 b.cs.length d3], .agg ⟨zeroSg⟩, .bool false]) (by simp [results, Tryz.results7, go_sem, zeroSg, hK, y0, y1, y2, z0, z1, z2, z3, z4, z5, z6]) rfl ⟨_, by simp, hO.base HZ.out, hB⟩)
  · have hqf : (q == 0) = false := by simpa using h0q
    go_wp2_with fail
    (go_at_call 35; refine (boxAt_any q _).mono ?_; rintro e w11 ⟨rfl, b11⟩)
    have K11 := Lib.hid (K10.out.below b11)
    have Q11 := Lib.hid (Q10.out.call b11)
    have OU11 := Lib.hid (OU10.out.later b11)
    clear b11 K10 Q10 OU10 p0 p1 p2 s0 s1 s2 s3 s4 s5 s6 r0 r1 r2 f0 f1 f2 q0 q1 q2 q3 q4 q5 q6 h0 h1 h2 h3 h4 h5 h6
    obtain ⟨⟨p0, p1, p2⟩, -⟩ := three_all Q11.out.2.1
    obtain ⟨s0, s1, s2, s3, s4, s5, s6⟩ := seven_all Q11.out.2.2.1
    obtain ⟨⟨r0, r1, r2⟩, f0, f1, f2⟩ := three_all Q11.out.2.2.2.1
    obtain ⟨q0, q1, q2, q3, q4, q5, q6⟩ := seven_all (show Blk _ _ _ [.int .i64 0, .int .i64 0, .int .i64 0, .int .i64 0, .int .i64 0, .int .i64 0, .string ByteArray.empty] from Q11.out.2.2.2.2)
    obtain ⟨h0, h1, h2, h3, h4, h5, h6⟩ := seven_froz (show Blk _ _ _ [.int .i64 0, .int .i64 0, .int .i64 0, .int .i64 0, .int .i64 0, .int .i64 0, .string ByteArray.empty] from Q11.out.2.2.2.2)
    have zn : w.heap.size + 1 ≠ w3.heap.size := by have := ZW.out; omega
    have t0 : ((w11.setCell ⟨w.heap.size + 1, 0, none⟩ (.int .i64 50)).setCell ⟨w.heap.size + 1, 1, none⟩ (.int .i64 q)).cell? ⟨w3.heap.size, 0, none⟩ = some (.int .i64 ta) := by
      rw [World.cell?_setCell_far _ _ _ _ (by simpa using zn), World.cell?_setCell_far _ _ _ _ (by simpa using zn)]
      exact (K11.out.cell 0 _ rfl).1
    have t1 : ((w11.setCell ⟨w.heap.size + 1, 0, none⟩ (.int .i64 50)).setCell ⟨w.heap.size + 1, 1, none⟩ (.int .i64 q)).cell? ⟨w3.heap.size, 1, none⟩ = some (.int .i64 tp) := by
      rw [World.cell?_setCell_far _ _ _ _ (by simpa using zn), World.cell?_setCell_far _ _ _ _ (by simpa using zn)]
      exact (K11.out.cell 1 _ rfl).1
    obtain ⟨j0, j1, j2, j3, j4, j5, j6⟩ := seven_froz Q11.out.2.2.1
    have Q12 := Lib.hid (Q11.out.seg (.int .i64 50) (.int .i64 q) (.int .i64 ta) (.int .i64 tp))
    have hs1 : w.heap.size + 1 < w1.heap.size := by have := ZZ.out; omega
    have OU12 := Lib.hid ((((OU11.out.setCell (a := ⟨w.heap.size + 1, 0, none⟩) hs1 (.int .i64 50)).setCell (a := ⟨w.heap.size + 1, 1, none⟩) hs1 (.int .i64 q)).setCell (a := ⟨w.heap.size + 1, 2, none⟩) hs1 (.int .i64 ta)).setCell (a := ⟨w.heap.size + 1, 3, none⟩) hs1 (.int .i64 tp))
    clear zn hs1 p0 p1 p2 r0 r1 r2 f0 f1 f2 q0 q1 q2 q3 q4 q5 q6 h0 h1 h2 h3 h4 h5 h6
    obtain ⟨⟨p0, p1, p2⟩, -⟩ := three_all Q12.out.2.1
    obtain ⟨v0, v1, v2, v3, v4, v5, v6⟩ := seven_all Q12.out.2.2.1
    obtain ⟨⟨r0, r1, r2⟩, f0, f1, f2⟩ := three_all Q12.out.2.2.2.1
    obtain ⟨q0, q1, q2, q3, q4, q5, q6⟩ := seven_all (show Blk _ _ _ [.int .i64 0, .int .i64 0, .int .i64 0, .int .i64 0, .int .i64 0, .int .i64 0, .string ByteArray.empty] from Q12.out.2.2.2.2)
    obtain ⟨h0, h1, h2, h3, h4, h5, h6⟩ := seven_froz (show Blk _ _ _ [.int .i64 0, .int .i64 0, .int .i64 0, .int .i64 0, .int .i64 0, .int .i64 0, .string ByteArray.empty] from Q12.out.2.2.2.2)
    go_wp2_with fail
    obtain ⟨w12, hw12⟩ : ∃ w12, w12 = ((((w11.setCell ⟨w.heap.size + 1, 0, none⟩ (.int .i64 50)).setCell ⟨w.heap.size + 1, 1, none⟩ (.int .i64 q)).setCell ⟨w.heap.size + 1, 2, none⟩ (.int .i64 ta)).setCell ⟨w.heap.size + 1, 3, none⟩ (.int .i64 tp)) := ⟨_, rfl⟩
    rw [← hw12] at Q12 OU12 p0 p1 p2 v0 v1 v2 v3 v4 v5 v6 r0 r1 r2 f0 f1 f2 q0 q1 q2 q3 q4 q5 q6 h0 h1 h2 h3 h4 h5 h6
    rw [← hw12]
    clear hw12 s0 s1 s2 s3 s4 s5 s6 t0 t1 j0 j1 j2 j3 j4 j5 j6 OU11 Q11 K11
    have BR : Hid (Rs w.heap.size (.slice x1 b.rs.length d1) (.slice g8 us.length c8) (.slice x3 b.cs.length d3) (.int .i64 50) (.int .i64 q) (.int .i64 ta) (.int .i64 tp) (.int .i64 sq) (.int .i64 ak) (.string d) w12) := Rs.of Q12.out.2.1 Q12.out.2.2.1
    clear p0 p1 p2 v0 v1 v2 v3 v4 v5 v6
    go_region_held3 (fun w' => w'.cell? ⟨w.heap.size, 0, none⟩ = some (.slice x1 b.rs.length d1) ∧ w'.cell? ⟨w.heap.size, 1, none⟩ = some (.slice g8 us.length c8) ∧ w'.cell? ⟨w.heap.size, 2, none⟩ = some (.slice x3 b.cs.length d3) ∧ w'.cell? ⟨w.heap.size + 1, 0, none⟩ = some (.int .i64 50) ∧ w'.cell? ⟨w.heap.size + 1, 1, none⟩ = some (.int .i64 q) ∧ w'.cell? ⟨w.heap.size + 1, 2, none⟩ = some (.int .i64 ta) ∧ w'.cell? ⟨w.heap.size + 1, 3, none⟩ = some (.int .i64 tp) ∧ w'.cell? ⟨w.heap.size + 1, 4, none⟩ = some (.int .i64 sq) ∧ w'.cell? ⟨w.heap.size + 1, 5, none⟩ = some (.int .i64 ak) ∧ w'.cell? ⟨w.heap.size + 1, 6, none⟩ = some (.string d))
      (first
        | (show Rs w.heap.size (.slice x1 b.rs.length d1) (.slice g8 us.length c8) (.slice x3 b.cs.length d3) (.int .i64 50) (.int .i64 q) (.int .i64 ta) (.int .i64 tp) (.int .i64 sq) (.int .i64 ak) (.string d) _; repeat (first | with_reducible exact BR.out | with_reducible refine Rs.drew ?_ | with_reducible refine Rs.set ?_ (by omega) _ _))
        | (trace_state; fail))
      (fail)
    all_goals
      go_wp2_with fail
      have e1 := put10_box Q12.out.2.2.2.1 (.slice x1 b.rs.length d1) (.slice g8 us.length c8) (.slice x3 b.cs.length d3) (.int .i64 50) (.int .i64 q) (.int .i64 ta) (.int .i64 tp) (.int .i64 sq) (.int .i64 ak) (.string d)
      have e2 := put10_seg (show Blk _ _ _ [.int .i64 0, .int .i64 0, .int .i64 0, .int .i64 0, .int .i64 0, .int .i64 0, .string ByteArray.empty] from Q12.out.2.2.2.2) (.slice x1 b.rs.length d1) (.slice g8 us.length c8) (.slice x3 b.cs.length d3) (.int .i64 50) (.int .i64 q) (.int .i64 ta) (.int .i64 tp) (.int .i64 sq) (.int .i64 ak) (.string d)
      have hB := (put10_below Q12.out.1 (Nat.le_refl _) (.slice x1 b.rs.length d1) (.slice g8 us.length c8) (.slice x3 b.cs.length d3) (.int .i64 50) (.int .i64 q) (.int .i64 ta) (.int .i64 tp) (.int .i64 sq) (.int .i64 ak) (.string d)).drew
      have hO := put10_ownF OU12.out ZZ.out (.slice x1 b.rs.length d1) (.slice g8 us.length c8) (.slice x3 b.cs.length d3) (.int .i64 50) (.int .i64 q) (.int .i64 ta) (.int .i64 tp) (.int .i64 sq) (.int .i64 ak) (.string d)
      obtain ⟨W, hW⟩ : ∃ W, W = put10 w12 w.heap.size (.slice x1 b.rs.length d1) (.slice g8 us.length c8) (.slice x3 b.cs.length d3) (.int .i64 50) (.int .i64 q) (.int .i64 ta) (.int .i64 tp) (.int .i64 sq) (.int .i64 ak) (.string d) := ⟨_, rfl⟩
      rw [← hW] at e1 e2 hB hO
      unfold put10 at hW
      rw [← hW]
      clear hW
      obtain ⟨⟨y0, y1, y2⟩, -⟩ := three_all (show Blk W.drew _ _ _ from e1)
      obtain ⟨z0, z1, z2, z3, z4, z5, z6⟩ := seven_all (show Blk W.drew _ _ _ from e2)
      have hO2 : OwF W.drew w1.heap.size (.agg #[.slice x1 b.rs.length d1, .slice g8 us.length c8, .slice x3 b.cs.length d3]) ⟨b.rs, us, b.cs⟩ := OwF.later hO (Below.refl _ _).drew
      refine bodyPost_ret (v := .tuple #[.agg #[.slice x1 b.rs.length d1, .slice g8 us.length c8, .slice x3 b.cs.length d3], .agg #[.int .i64 50, .int .i64 q, .int .i64 ta, .int .i64 tp, .int .i64 sq, .int .i64 ak, .string d], .bool true]) (by simp [results, Tryz.results7, go_sem, y0, y1, y2, z0, z1, z2, z3, z4, z5, z6]) rfl ⟨_, rfl, hO2.base HZ.out, hB⟩

end Go.Proofs.YtgfkiljkpkfapaaGreatDoor

/- BoxTurn of the specification, at a box whose lists lie at any address. Conditions: as BoxOk. -/
namespace Go.Proofs.YtgfkiljkpkfapaaGreatDoor
open Go.RowKit Go.Sort

set_option maxRecDepth 100000 in
set_option maxHeartbeats 6400000 in
theorem specTurn_stayG (B : Nat) (v : Value) (b : Bx) (sa sp da dp sq ak : Int) (d : ByteArray) (w : World) (hs : bxSz b) (hB : B ≤ w.heap.size) (ho : GBx w B v b) (hok : boxOkB b = true) (hd : d.size ≤ 2097152)
    (hno : (segOkB ⟨sa, sp, da, dp, sq, ak, d.data.toList⟩ && insB sa sp && decide (da = 50)) = false) :
    Calls Tryz.prog 8 #[v, .agg #[.int .i64 sa, .int .i64 sp, .int .i64 da, .int .i64 dp, .int .i64 sq, .int .i64 ak, .string d]] w fun e w' => ∃ u, e = .returned (.tuple #[u, .agg ⟨zeroSg⟩, .bool false]) ∧ OwB w' w.heap.size u b ∧ Below w.heap.size w w' := by
  have HO : Hid (∀ w', Below w.heap.size w w' → Calls Tryz.prog 10 #[v] w' fun e w'' => e = .returned (.bool true) ∧ Below w'.heap.size w' w'') := fun w' h => by
    rw [← hok]
    exact specBoxOk_anyG B v b w' hs (Nat.le_trans hB h.size) (ho.later h)
  have HL : Hid (∀ w', Below w.heap.size w w' → Calls Tryz.prog 36 #[v] w' fun e w'' => ∃ u, e = .returned u ∧ OwB w'' w'.heap.size u b ∧ Below w'.heap.size w' w'') := fun w' h => specSame_yesG B v b w' hs (Nat.le_trans hB h.size) (ho.later h) hok
  obtain ⟨bS, hbS⟩ : ∃ bS, bS = segOkB ⟨sa, sp, da, dp, sq, ak, d.data.toList⟩ := ⟨_, rfl⟩
  have HS : Hid (∀ w', Calls Tryz.prog 13 #[.agg #[.int .i64 sa, .int .i64 sp, .int .i64 da, .int .i64 dp, .int .i64 sq, .int .i64 ak, .string d]] w' fun e w'' => e = .returned (.bool bS) ∧ Below w'.heap.size w' w'') := fun w' => by rw [hbS]; exact specSegOk_any sa sp da dp sq ak d w' hd
  obtain ⟨bI, hbI⟩ : ∃ bI, bI = insB sa sp := ⟨_, rfl⟩
  have HI : Hid (∀ w', Calls Tryz.prog 14 #[.agg #[.int .i64 sa, .int .i64 sp]] w' fun e w'' => e = .returned (.bool bI) ∧ Below w'.heap.size w' w'') := fun w' => by rw [hbI]; exact specInside_any sa sp w'
  rw [← hbS, ← hbI] at hno
  obtain ⟨a1, c1, a2, c2, a3, c3, rfl, o1, o2, o3⟩ := ho
  clear o1 o2 o3 hok hs hB hd hbS hbI
  have QN := Lib.hid (Q4.new w [.slice a1 b.rs.length c1, .slice a2 b.es.length c2, .slice a3 b.cs.length c3] [.int .i64 sa, .int .i64 sp, .int .i64 da, .int .i64 dp, .int .i64 sq, .int .i64 ak, .string d] [.slice none 0 0, .slice none 0 0, .slice none 0 0] zeroSg)
  have key : bS = false ∨ (bS = true ∧ bI = false) ∨ (bS = true ∧ bI = true ∧ (da == 50) = false) := by
    cases bS <;> cases bI <;> simp at hno ⊢
    exact hno
  clear hno
  rcases key with rfl | ⟨rfl, rfl⟩ | ⟨rfl, rfl, hda⟩
  all_goals
    go_enter Tryz.func8, Tryz.ntmps8
    go_wp2_with (first
      | (go_at_call 10; refine (HO.out _ QN.out.1).mono ?_; rintro e w1 ⟨rfl, b1⟩; have QQ := Lib.hid (QN.out.call b1); obtain ⟨⟨p0, p1, p2⟩, -⟩ := three_all QQ.out.2.1; obtain ⟨s0, s1, s2, s3, s4, s5, s6⟩ := seven_all QQ.out.2.2.1; clear b1)
      | (go_at_call 13; refine (HS.out _).mono ?_; rintro e w5 ⟨rfl, b5⟩; have QQ := Lib.hid (QQ.out.call b5); clear b5 p0 p1 p2 s0 s1 s2 s3 s4 s5 s6; obtain ⟨⟨p0, p1, p2⟩, -⟩ := three_all QQ.out.2.1; obtain ⟨s0, s1, s2, s3, s4, s5, s6⟩ := seven_all QQ.out.2.2.1)
      | (go_at_call 14; refine (HI.out _).mono ?_; rintro e w6 ⟨rfl, b6⟩; have QQ := Lib.hid (QQ.out.call b6); clear b6 p0 p1 p2 s0 s1 s2 s3 s4 s5 s6; obtain ⟨⟨p0, p1, p2⟩, -⟩ := three_all QQ.out.2.1; obtain ⟨s0, s1, s2, s3, s4, s5, s6⟩ := seven_all QQ.out.2.2.1)
      | (go_at_call 36; have ZZ := Lib.hid QQ.out.2.2.2.2.lt; refine (HL.out _ QQ.out.1).mono ?_; rintro e wL ⟨u, rfl, oU, bU⟩; obtain ⟨x1, d1, x2, d2, x3, d3, rfl, m1, m2, m3⟩ := oU; have OU : Hid (OwB wL _ (.agg #[.slice (some x1) b.rs.length d1, .slice (some x2) b.es.length d2, .slice (some x3) b.cs.length d3]) b) := Lib.hid ⟨_, _, _, _, _, _, rfl, m1, m2, m3⟩; have QQ := Lib.hid (QQ.out.call bU); clear bU m1 m2 m3 p0 p1 p2 s0 s1 s2 s3 s4 s5 s6; obtain ⟨⟨r0, r1, r2⟩, f0, f1, f2⟩ := three_all QQ.out.2.2.2.1; have Z2 : Hid (Blk wL (w.heap.size + 1 + 1 + 1) 33 [.int .i64 0, .int .i64 0, .int .i64 0, .int .i64 0, .int .i64 0, .int .i64 0, .string ByteArray.empty]) := QQ.out.2.2.2.2; obtain ⟨q0, q1, q2, q3, q4, q5, q6⟩ := seven_all Z2.out; obtain ⟨h0, h1, h2, h3, h4, h5, h6⟩ := seven_froz Z2.out))
    have e1 := put10_box QQ.out.2.2.2.1 (.slice (some x1) b.rs.length d1) (.slice (some x2) b.es.length d2) (.slice (some x3) b.cs.length d3) (.int .i64 0) (.int .i64 0) (.int .i64 0) (.int .i64 0) (.int .i64 0) (.int .i64 0) (.string ByteArray.empty)
    obtain ⟨⟨y0, y1, y2⟩, -⟩ := three_all e1
    obtain ⟨z0, z1, z2, z3, z4, z5, z6⟩ := seven_all (put10_seg Z2.out (.slice (some x1) b.rs.length d1) (.slice (some x2) b.es.length d2) (.slice (some x3) b.cs.length d3) (.int .i64 0) (.int .i64 0) (.int .i64 0) (.int .i64 0) (.int .i64 0) (.int .i64 0) (.string ByteArray.empty))
    have hB := put10_below QQ.out.1 (Nat.le_refl _) (.slice (some x1) b.rs.length d1) (.slice (some x2) b.es.length d2) (.slice (some x3) b.cs.length d3) (.int .i64 0) (.int .i64 0) (.int .i64 0) (.int .i64 0) (.int .i64 0) (.int .i64 0) (.string ByteArray.empty)
    have hO := put10_own OU.out ZZ.out (.slice (some x1) b.rs.length d1) (.slice (some x2) b.es.length d2) (.slice (some x3) b.cs.length d3) (.int .i64 0) (.int .i64 0) (.int .i64 0) (.int .i64 0) (.int .i64 0) (.int .i64 0) (.string ByteArray.empty)
    have hK : ByteArray.empty = { data := #[] } := rfl
    rw [hK] at y0 y1 y2 z0 z1 z2 z3 z4 z5 z6 hB hO
    obtain ⟨W, hW⟩ : ∃ W, W = put10 wL w.heap.size (.slice (some x1) b.rs.length d1) (.slice (some x2) b.es.length d2) (.slice (some x3) b.cs.length d3) (.int .i64 0) (.int .i64 0) (.int .i64 0) (.int .i64 0) (.int .i64 0) (.int .i64 0) (.string { data := #[] }) := ⟨_, rfl⟩
    rw [← hW] at y0 y1 y2 z0 z1 z2 z3 z4 z5 z6 hB hO
    unfold put10 at hW
    rw [← hW]
    have HZ := ZZ.out
    refine bodyPost_ret (v := .tuple #[.agg #[.slice (some x1) b.rs.length d1, .slice (some x2) b.es.length d2, .slice (some x3) b.cs.length d3], .agg ⟨zeroSg⟩, .bool false]) (by simp [results, Tryz.results8, go_sem, zeroSg, hK, y0, y1, y2, z0, z1, z2, z3, z4, z5, z6]) rfl ⟨_, rfl, hO.base (by omega), hB⟩

set_option maxRecDepth 100000 in
set_option maxHeartbeats 3200000 in
theorem specTurn_notG (B : Nat) (v : Value) (b : Bx) (sa sp da dp sq ak : Int) (d : ByteArray) (w : World) (hs : bxSz b) (hB : B ≤ w.heap.size) (ho : GBx w B v b) (hno : boxOkB b = false) :
    Calls Tryz.prog 8 #[v, .agg #[.int .i64 sa, .int .i64 sp, .int .i64 da, .int .i64 dp, .int .i64 sq, .int .i64 ak, .string d]] w fun e w' => e = .returned (.tuple #[.agg #[.slice none 0 0, .slice none 0 0, .slice none 0 0], .agg ⟨zeroSg⟩, .bool false]) ∧ Below w.heap.size w w' := by
  have HO : Hid (∀ w', Below w.heap.size w w' → Calls Tryz.prog 10 #[v] w' fun e w'' => e = .returned (.bool false) ∧ Below w'.heap.size w' w'') := fun w' h => by
    rw [← hno]
    exact specBoxOk_anyG B v b w' hs (Nat.le_trans hB h.size) (ho.later h)
  obtain ⟨a1, c1, a2, c2, a3, c3, rfl, o1, o2, o3⟩ := ho
  have HS : Hid (∀ w', Below w.heap.size w w' → Calls Tryz.prog 36 #[.agg #[.slice a1 b.rs.length c1, .slice a2 b.es.length c2, .slice a3 b.cs.length c3]] w' fun e w'' => e = .returned (.agg #[.slice none 0 0, .slice none 0 0, .slice none 0 0]) ∧ Below w'.heap.size w' w'') := fun w' h =>
    specSame_not _ w' ⟨_, _, _, rfl⟩ (fun w'' h2 => HO.out w'' (h.trans (h2.mono h.size)))
  clear o1 o2 o3 hno hs hB
  have QN := Lib.hid (Q4.new w [.slice a1 b.rs.length c1, .slice a2 b.es.length c2, .slice a3 b.cs.length c3] [.int .i64 sa, .int .i64 sp, .int .i64 da, .int .i64 dp, .int .i64 sq, .int .i64 ak, .string d] [.slice none 0 0, .slice none 0 0, .slice none 0 0] zeroSg)
  go_enter Tryz.func8, Tryz.ntmps8
  go_wp2_with (go_at_call 10; refine (HO.out _ QN.out.1).mono ?_; rintro e w1 ⟨rfl, b1⟩; have Q1 := Lib.hid (QN.out.call b1); obtain ⟨⟨p0, p1, p2⟩, -⟩ := three_all Q1.out.2.1; clear b1)
  go_wp2_with (go_at_call 36; refine (HS.out _ Q1.out.1).mono ?_; rintro e w2 ⟨rfl, b2⟩; have Q2 := Lib.hid (Q1.out.call b2); obtain ⟨⟨r0, r1, r2⟩, f0, f1, f2⟩ := three_all Q2.out.2.2.2.1; have Z2 : Hid (Blk w2 (w.heap.size + 1 + 1 + 1) 33 [.int .i64 0, .int .i64 0, .int .i64 0, .int .i64 0, .int .i64 0, .int .i64 0, .string ByteArray.empty]) := Q2.out.2.2.2.2; obtain ⟨q0, q1, q2, q3, q4, q5, q6⟩ := seven_all Z2.out; obtain ⟨h0, h1, h2, h3, h4, h5, h6⟩ := seven_froz Z2.out; clear b2)
  obtain ⟨⟨y0, y1, y2⟩, -⟩ := three_all (put10_box Q2.out.2.2.2.1 (.slice none 0 0) (.slice none 0 0) (.slice none 0 0) (.int .i64 0) (.int .i64 0) (.int .i64 0) (.int .i64 0) (.int .i64 0) (.int .i64 0) (.string ByteArray.empty))
  obtain ⟨z0, z1, z2, z3, z4, z5, z6⟩ := seven_all (put10_seg Z2.out (.slice none 0 0) (.slice none 0 0) (.slice none 0 0) (.int .i64 0) (.int .i64 0) (.int .i64 0) (.int .i64 0) (.int .i64 0) (.int .i64 0) (.string ByteArray.empty))
  have hB := put10_below Q2.out.1 (Nat.le_refl _) (.slice none 0 0) (.slice none 0 0) (.slice none 0 0) (.int .i64 0) (.int .i64 0) (.int .i64 0) (.int .i64 0) (.int .i64 0) (.int .i64 0) (.string ByteArray.empty)
  have hK : ByteArray.empty = { data := #[] } := rfl
  rw [hK] at y0 y1 y2 z0 z1 z2 z3 z4 z5 z6 hB
  obtain ⟨W, hW⟩ : ∃ W, W = put10 w2 w.heap.size (.slice none 0 0) (.slice none 0 0) (.slice none 0 0) (.int .i64 0) (.int .i64 0) (.int .i64 0) (.int .i64 0) (.int .i64 0) (.int .i64 0) (.string { data := #[] }) := ⟨_, rfl⟩
  rw [← hW] at y0 y1 y2 z0 z1 z2 z3 z4 z5 z6 hB
  unfold put10 at hW
  rw [← hW]
  refine bodyPost_ret (v := .tuple #[.agg #[.slice none 0 0, .slice none 0 0, .slice none 0 0], .agg ⟨zeroSg⟩, .bool false]) (by simp [results, Tryz.results8, go_sem, zeroSg, hK, y0, y1, y2, z0, z1, z2, z3, z4, z5, z6]) rfl ⟨rfl, hB⟩

set_option maxRecDepth 100000 in
set_option maxHeartbeats 6400000 in
theorem specTurn_goG (B : Nat) (v : Value) (b : Bx) (sa sp da dp sq ak : Int) (d : ByteArray) (w : World) (hs : bxSz b) (hB : B ≤ w.heap.size) (ho : GBx w B v b) (hok : boxOkB b = true) (hd : d.size ≤ 2097152) (ta tp : Int) (has : Bool)
    (gS : segOkB ⟨sa, sp, da, dp, sq, ak, d.data.toList⟩ = true) (gI : insB sa sp = true) (gD : da = 50) (hE : endV (endI b.es dp) = .tuple #[.agg #[.int .i64 ta, .int .i64 tp], .bool has]) :
    Calls Tryz.prog 8 #[v, .agg #[.int .i64 sa, .int .i64 sp, .int .i64 da, .int .i64 dp, .int .i64 sq, .int .i64 ak, .string d]] w fun e w' => ∃ u, e = .returned (.tuple #[u, if has = false ∨ (putE b.es (sa, sp)).2 = 0 then .agg ⟨zeroSg⟩ else .agg #[.int .i64 50, .int .i64 (putE b.es (sa, sp)).2, .int .i64 ta, .int .i64 tp, .int .i64 sq, .int .i64 ak, .string d], .bool (decide (¬ (has = false ∨ (putE b.es (sa, sp)).2 = 0)))]) ∧ OwB w' w.heap.size u (if has = false then b else ⟨b.rs, (putE b.es (sa, sp)).1, b.cs⟩) ∧ Below w.heap.size w w' := by
  subst gD
  have HO : Hid (∀ w', Below w.heap.size w w' → Calls Tryz.prog 10 #[v] w' fun e w'' => e = .returned (.bool true) ∧ Below w'.heap.size w' w'') := fun w' h => by
    rw [← hok]
    exact specBoxOk_anyG B v b w' hs (Nat.le_trans hB h.size) (ho.later h)
  have HC : Hid (∀ w', Below w.heap.size w w' → Calls Tryz.prog 37 #[v] w' fun e w'' => ∃ u, e = .returned u ∧ OwB w'' w'.heap.size u b ∧ Below w'.heap.size w' w'') := fun w' h => specCopy7_anyG B v b w' hs (ho.later h)
  have hn : b.es.length ≤ 4194304 := by have := hs.2.1; omega
  have HS : Hid (∀ w', Calls Tryz.prog 13 #[.agg #[.int .i64 sa, .int .i64 sp, .int .i64 50, .int .i64 dp, .int .i64 sq, .int .i64 ak, .string d]] w' fun e w'' => e = .returned (.bool true) ∧ Below w'.heap.size w' w'') := fun w' => by rw [← gS]; exact specSegOk_any sa sp 50 dp sq ak d w' hd
  have HI : Hid (∀ w', Calls Tryz.prog 14 #[.agg #[.int .i64 sa, .int .i64 sp]] w' fun e w'' => e = .returned (.bool true) ∧ Below w'.heap.size w' w'') := fun w' => by rw [← gI]; exact specInside_any sa sp w'
  obtain ⟨us, hus⟩ : ∃ us, us = (putE b.es (sa, sp)).1 := ⟨_, rfl⟩
  obtain ⟨q, hq⟩ : ∃ q, q = (putE b.es (sa, sp)).2 := ⟨_, rfl⟩
  have hz : q = 0 → us = b.es := fun h => by rw [hus]; exact putE_zeroY (by rw [← hq]; exact h)
  rw [← hus, ← hq]
  obtain ⟨R, hR⟩ : ∃ R : Value, R = if has = false ∨ q = 0 then .agg ⟨zeroSg⟩ else .agg #[.int .i64 50, .int .i64 q, .int .i64 ta, .int .i64 tp, .int .i64 sq, .int .i64 ak, .string d] := ⟨_, rfl⟩
  obtain ⟨bb, hbb⟩ : ∃ bb : Bool, bb = decide (¬ (has = false ∨ q = 0)) := ⟨_, rfl⟩
  obtain ⟨ub, hub⟩ : ∃ ub : Bx, ub = if has = false then b else ⟨b.rs, us, b.cs⟩ := ⟨_, rfl⟩
  rw [← hR, ← hbb, ← hub]
  have HR := Lib.hid hR
  have HBB := Lib.hid hbb
  have HUB := Lib.hid hub
  clear hR hbb hub
  have HP : Hid (∀ B x c w', B ≤ w'.heap.size → OwnTab w' B (.slice (some x) b.es.length c) b.es → Calls Tryz.prog 39 #[.agg #[.slice (some x) b.es.length c], .agg #[.int .i64 sa, .int .i64 sp]] w' fun e w'' => ∃ g c', e = .returned (.tuple #[.agg #[.slice (some g) us.length c'], .int .i64 q]) ∧ OwnTab w'' B (.slice (some g) us.length c') us ∧ Below w'.heap.size w' w'') := fun B x c w' h1 h2 => by rw [hus, hq]; exact specPut_any B x c b.es sa sp w' hn h1 h2
  obtain ⟨a1, c1, a2, c2, a3, c3, rfl, o1, o2, o3⟩ := ho
  have HM : Hid (∀ w', Below w.heap.size w w' → Calls Tryz.prog 38 #[.agg #[.slice a2 b.es.length c2], .int .i64 dp] w' fun e w'' => e = .returned (.tuple #[.agg #[.int .i64 ta, .int .i64 tp], .bool has]) ∧ Below w'.heap.size w' w'') := fun w' h => by
    rw [← hE]
    exact specMapEnd_any _ b.es dp w' hn ((OwnTab.tab (B := B) o2).below h)
  have ZQ := Lib.hid hz
  clear o1 o2 o3 hok hs hB hd gS gI hE hus hq hz hn
  have QN := Lib.hid (Q4.new w [.slice a1 b.rs.length c1, .slice a2 b.es.length c2, .slice a3 b.cs.length c3] [.int .i64 sa, .int .i64 sp, .int .i64 50, .int .i64 dp, .int .i64 sq, .int .i64 ak, .string d] [.slice none 0 0, .slice none 0 0, .slice none 0 0] zeroSg)
  go_enter Tryz.func8, Tryz.ntmps8
  go_wp2_with (first
      | (go_at_call 10; refine (HO.out _ QN.out.1).mono ?_; rintro e w1 ⟨rfl, b1⟩; have QQ := Lib.hid (QN.out.call b1); obtain ⟨⟨p0, p1, p2⟩, -⟩ := three_all QQ.out.2.1; obtain ⟨s0, s1, s2, s3, s4, s5, s6⟩ := seven_all QQ.out.2.2.1; clear b1)
      | (go_at_call 13; refine (HS.out _).mono ?_; rintro e w5 ⟨rfl, b5⟩; have QQ := Lib.hid (QQ.out.call b5); clear b5 p0 p1 p2 s0 s1 s2 s3 s4 s5 s6; obtain ⟨⟨p0, p1, p2⟩, -⟩ := three_all QQ.out.2.1; obtain ⟨s0, s1, s2, s3, s4, s5, s6⟩ := seven_all QQ.out.2.2.1)
      | (go_at_call 14; refine (HI.out _).mono ?_; rintro e w6 ⟨rfl, b6⟩; have Q6 := Lib.hid (QQ.out.call b6); clear b6 p0 p1 p2 s0 s1 s2 s3 s4 s5 s6; obtain ⟨⟨p0, p1, p2⟩, -⟩ := three_all Q6.out.2.1; obtain ⟨s0, s1, s2, s3, s4, s5, s6⟩ := seven_all Q6.out.2.2.1))
  (go_at_call 37; refine (HC.out _ Q6.out.1).mono ?_; rintro e wC ⟨u, rfl, oU, bU⟩; obtain ⟨x1, d1, x2, d2, x3, d3, rfl, m1, m2, m3⟩ := oU)
  have ZZ := Lib.hid Q6.out.2.2.2.2.lt
  have ZC := Lib.hid bU.size
  have aC : Below wC.heap.size wC (wC.alloc (.cells #[.slice (some x1) b.rs.length d1, .slice (some x2) b.es.length d2, .slice (some x3) b.cs.length d3] 29)) := (Below.refl _ _).alloc (Nat.le_refl _) _
  have Q7 := Lib.hid ((Q6.out.call bU).call aC)
  have M1 := Lib.hid (own_later m1 aC)
  have M2 := Lib.hid (own_later (ends_own m2) aC)
  have M3 := Lib.hid (own_later m3 aC)
  have KX : Hid (Blk (wC.alloc (.cells #[.slice (some x1) b.rs.length d1, .slice (some x2) b.es.length d2, .slice (some x3) b.cs.length d3] 29)) wC.heap.size 29 [.slice (some x1) b.rs.length d1, .slice (some x2) b.es.length d2, .slice (some x3) b.cs.length d3]) := heap_last3 wC _
  clear m1 m2 m3 bU aC p0 p1 p2 s0 s1 s2 s3 s4 s5 s6
  obtain ⟨⟨p0, p1, p2⟩, -⟩ := three_all Q7.out.2.1
  obtain ⟨s0, s1, s2, s3, s4, s5, s6⟩ := seven_all Q7.out.2.2.1
  go_wp2_with fail
  (go_at_call 38; refine (HM.out _ Q7.out.1).mono ?_; rintro e wM ⟨rfl, bM⟩)
  have aM : Below wM.heap.size wM (wM.alloc (.cells #[.int .i64 ta, .int .i64 tp] 31)) := (Below.refl _ _).alloc (Nat.le_refl _) _
  have Q8 := Lib.hid ((Q7.out.call bM).call aM)
  have M18 := Lib.hid (own_later (own_later M1.out bM) aM)
  have M28 := Lib.hid (own_later (own_later M2.out bM) aM)
  have M38 := Lib.hid (own_later (own_later M3.out bM) aM)
  have KX8 := Lib.hid ((KX.out.below bM).below aM)
  have KE : Hid (Blk (wM.alloc (.cells #[.int .i64 ta, .int .i64 tp] 31)) wM.heap.size 31 [.int .i64 ta, .int .i64 tp]) := heap_last3 wM _
  have ZM : Hid (wC.heap.size < wM.heap.size) := by
    have := bM.size
    simp at this
    show _ < _
    omega
  clear bM aM p0 p1 p2 s0 s1 s2 s3 s4 s5 s6 Q7 M1 M2 M3 KX HM HC HO HS HI QN Q6 QQ
  obtain ⟨⟨x0', x1', x2'⟩, -⟩ := three_all KX8.out
  obtain ⟨s0, s1, s2, s3, s4, s5, s6⟩ := seven_all Q8.out.2.2.1
  go_wp2_with fail
  (go_at_call 39; refine (HP.out _ _ _ _ (by have := ZC.out; have := ZM.out; simp; omega) M28.out).mono ?_; rintro e wP ⟨gT, cT, rfl, oT, bP⟩)
  have aP : Below wP.heap.size wP (wP.alloc (.cells #[.slice (some gT) us.length cT] 26)) := (Below.refl _ _).alloc (Nat.le_refl _) _
  have Q9 := Lib.hid ((Q8.out.call bP).call aP)
  have M1 := Lib.hid (own_later (own_later M18.out bP) aP)
  have M2 := Lib.hid (own_later (own_later M28.out bP) aP)
  have M3 := Lib.hid (own_later (own_later M38.out bP) aP)
  have MT := Lib.hid (own_later oT aP)
  have KX := Lib.hid ((KX8.out.below bP).below aP)
  have KE9 := Lib.hid ((KE.out.below bP).below aP)
  have KT : Hid (Blk (wP.alloc (.cells #[.slice (some gT) us.length cT] 26)) wP.heap.size 26 [.slice (some gT) us.length cT]) := heap_last3 wP _
  have ZP : Hid (wM.heap.size < wP.heap.size) := by
    have := bP.size
    simp at this
    show _ < _
    omega
  obtain ⟨WT, hWT⟩ : ∃ W, W = wP.alloc (.cells #[.slice (some gT) us.length cT] 26) := ⟨_, rfl⟩
  rw [← hWT] at Q9 M1 M2 M3 MT KX KE9 KT
  clear bP aP oT M18 M28 M38 KX8 KE Q8 x0' x1' x2' s0 s1 s2 s3 s4 s5 s6 HP
  subst hWT
  obtain ⟨⟨p0, p1, p2⟩, g0, g1', g2'⟩ := three_all KX.out
  obtain ⟨⟨r0, r1, r2⟩, f0, f1, f2⟩ := three_all Q9.out.2.2.2.1
  obtain ⟨q0, q1, q2, q3, q4, q5, q6⟩ := seven_all (show Blk _ _ _ [.int .i64 0, .int .i64 0, .int .i64 0, .int .i64 0, .int .i64 0, .int .i64 0, .string ByteArray.empty] from Q9.out.2.2.2.2)
  obtain ⟨h0, h1, h2, h3, h4, h5, h6⟩ := seven_froz (show Blk _ _ _ [.int .i64 0, .int .i64 0, .int .i64 0, .int .i64 0, .int .i64 0, .int .i64 0, .string ByteArray.empty] from Q9.out.2.2.2.2)
  by_cases hst : has = false ∨ q = 0
  · have hR := HR.out
    have hbb := HBB.out
    have hub := HUB.out
    rw [if_pos hst] at hR
    rw [show decide (¬ (has = false ∨ q = 0)) = false from by simp [hst]] at hbb
    subst hR hbb
    clear HR HBB HUB
    have HB : Hid (OwB (wP.alloc (.cells #[.slice (some gT) us.length cT] 26)) w6.heap.size (.agg #[.slice (some x1) b.rs.length d1, .slice (some x2) b.es.length d2, .slice (some x3) b.cs.length d3]) ub) := by
      have e : ub = b := by
        rw [hub]
        split
        · rfl
        · rename_i hh
          rw [ZQ.out (hst.resolve_left hh)]
      rw [e]
      exact ⟨_, _, _, _, _, _, rfl, M1.out, own_ends M2.out, M3.out⟩
    have key : has = false ∨ (has = true ∧ q = 0) := by
      cases has
      · exact .inl rfl
      · exact .inr ⟨rfl, hst.resolve_left (by decide)⟩
    clear hst hub ZQ M1 M2 M3 MT KT KE9 KX
    rcases key with rfl | ⟨rfl, rfl⟩
    all_goals
      go_wp2_with fail
      obtain ⟨⟨y0, y1, y2⟩, -⟩ := three_all (put10_box Q9.out.2.2.2.1 (.slice (some x1) b.rs.length d1) (.slice (some x2) b.es.length d2) (.slice (some x3) b.cs.length d3) (.int .i64 0) (.int .i64 0) (.int .i64 0) (.int .i64 0) (.int .i64 0) (.int .i64 0) (.string ByteArray.empty))
      obtain ⟨z0, z1, z2, z3, z4, z5, z6⟩ := seven_all (put10_seg (show Blk _ _ _ [.int .i64 0, .int .i64 0, .int .i64 0, .int .i64 0, .int .i64 0, .int .i64 0, .string ByteArray.empty] from Q9.out.2.2.2.2) (.slice (some x1) b.rs.length d1) (.slice (some x2) b.es.length d2) (.slice (some x3) b.cs.length d3) (.int .i64 0) (.int .i64 0) (.int .i64 0) (.int .i64 0) (.int .i64 0) (.int .i64 0) (.string ByteArray.empty))
      have hB := put10_below Q9.out.1 (Nat.le_refl _) (.slice (some x1) b.rs.length d1) (.slice (some x2) b.es.length d2) (.slice (some x3) b.cs.length d3) (.int .i64 0) (.int .i64 0) (.int .i64 0) (.int .i64 0) (.int .i64 0) (.int .i64 0) (.string ByteArray.empty)
      have hO := put10_own HB.out ZZ.out (.slice (some x1) b.rs.length d1) (.slice (some x2) b.es.length d2) (.slice (some x3) b.cs.length d3) (.int .i64 0) (.int .i64 0) (.int .i64 0) (.int .i64 0) (.int .i64 0) (.int .i64 0) (.string ByteArray.empty)
      have hK : ByteArray.empty = { data := #[] } := rfl
      rw [hK] at y0 y1 y2 z0 z1 z2 z3 z4 z5 z6 hB hO
      obtain ⟨W, hW⟩ : ∃ W, W = put10 (wP.alloc (.cells #[.slice (some gT) us.length cT] 26)) w.heap.size (.slice (some x1) b.rs.length d1) (.slice (some x2) b.es.length d2) (.slice (some x3) b.cs.length d3) (.int .i64 0) (.int .i64 0) (.int .i64 0) (.int .i64 0) (.int .i64 0) (.int .i64 0) (.string { data := #[] }) := ⟨_, rfl⟩
      rw [← hW] at y0 y1 y2 z0 z1 z2 z3 z4 z5 z6 hB hO
      unfold put10 at hW
      rw [← hW]
      have HZ := ZZ.out
      refine bodyPost_ret (v := .tuple #[.agg #[.slice (some x1) b.rs.length d1, .slice (some x2) b.es.length d2, .slice (some x3) b.cs.length d3], .agg ⟨zeroSg⟩, .bool false]) (by simp [results, Tryz.results8, go_sem, zeroSg, hK, y0, y1, y2, z0, z1, z2, z3, z4, z5, z6]) rfl ⟨_, rfl, hO.base (by omega), hB⟩
  · have hR := HR.out
    have hbb := HBB.out
    have hub := HUB.out
    rw [if_neg hst] at hR
    rw [show decide (¬ (has = false ∨ q = 0)) = true from by simp [hst]] at hbb
    obtain ⟨hh, h0q⟩ : has = true ∧ ¬ q = 0 := by
      cases has
      · exact absurd (.inl rfl) hst
      · exact ⟨rfl, fun h => hst (.inr h)⟩
    subst hh
    have hqf : (q == 0) = false := by simpa using h0q
    rw [if_neg (by decide)] at hub
    subst hR hbb hub
    clear HR HBB HUB hst ZQ M2
    obtain ⟨s0, s1, s2, s3, s4, s5, s6⟩ := seven_all Q9.out.2.2.1
    obtain ⟨j0, j1, j2, j3, j4, j5, j6⟩ := seven_froz Q9.out.2.2.1
    have k0 : (wP.alloc (.cells #[.slice (some gT) us.length cT] 26)).cell? ⟨wP.heap.size, 0, none⟩ = some (.slice (some gT) us.length cT) := (KT.out.cell 0 _ rfl).1
    have zn : w.heap.size + 1 ≠ wM.heap.size := by have := ZZ.out; have := ZC.out; have := ZM.out; omega
    have zx : wC.heap.size ≠ wM.heap.size := by have := ZM.out; omega
    have zs : wC.heap.size ≠ w.heap.size + 1 := by have := ZZ.out; have := ZC.out; omega
    have zl : w.heap.size + 1 + 1 + 1 < wC.heap.size := by have := ZZ.out; have := ZC.out; omega
    have E2 := Lib.hid (((KE9.out.far (a := ⟨wC.heap.size, 1, none⟩) zx (.slice (some gT) us.length cT)).far (a := ⟨w.heap.size + 1, 0, none⟩) zn (.int .i64 50)).far (a := ⟨w.heap.size + 1, 1, none⟩) zn (.int .i64 q))
    have t0 := (E2.out.cell 0 _ rfl).1
    have t1 := (E2.out.cell 1 _ rfl).1
    have Q12 := Lib.hid ((Q9.out.far (a := ⟨wC.heap.size, 1, none⟩) zl (.slice (some gT) us.length cT)).seg (.int .i64 50) (.int .i64 q) (.int .i64 ta) (.int .i64 tp))
    have KX12 := Lib.hid (((((KX.out.set 1 (.slice (some gT) us.length cT)).far (a := ⟨w.heap.size + 1, 0, none⟩) zs.symm (.int .i64 50)).far (a := ⟨w.heap.size + 1, 1, none⟩) zs.symm (.int .i64 q)).far (a := ⟨w.heap.size + 1, 2, none⟩) zs.symm (.int .i64 ta)).far (a := ⟨w.heap.size + 1, 3, none⟩) zs.symm (.int .i64 tp))
    have OU1 : OwB ((wP.alloc (.cells #[.slice (some gT) us.length cT] 26)).setCell ⟨wC.heap.size, 1, none⟩ (.slice (some gT) us.length cT)) w6.heap.size (.agg #[.slice (some x1) b.rs.length d1, .slice (some gT) us.length cT, .slice (some x3) b.cs.length d3]) ⟨b.rs, us, b.cs⟩ :=
      ⟨_, _, _, _, _, _, rfl, own_setT M1.out KX.out (by decide) _ _, own_ends (own_setT MT.out KX.out (by decide) _ _), own_setT M3.out KX.out (by decide) _ _⟩
    have hs1 : w.heap.size + 1 < w6.heap.size := by have := ZZ.out; omega
    have OU12 := Lib.hid ((((OU1.setCell (a := ⟨w.heap.size + 1, 0, none⟩) hs1 (.int .i64 50)).setCell (a := ⟨w.heap.size + 1, 1, none⟩) hs1 (.int .i64 q)).setCell (a := ⟨w.heap.size + 1, 2, none⟩) hs1 (.int .i64 ta)).setCell (a := ⟨w.heap.size + 1, 3, none⟩) hs1 (.int .i64 tp))
    clear OU1 r0 r1 r2 f0 f1 f2 q0 q1 q2 q3 q4 q5 q6 h0 h1 h2 h3 h4 h5 h6 zn zx hs1 M1 M3 MT KX KE9 KT
    obtain ⟨⟨r0, r1, r2⟩, f0, f1, f2⟩ := three_all Q12.out.2.2.2.1
    obtain ⟨q0, q1, q2, q3, q4, q5, q6⟩ := seven_all (show Blk _ _ _ [.int .i64 0, .int .i64 0, .int .i64 0, .int .i64 0, .int .i64 0, .int .i64 0, .string ByteArray.empty] from Q12.out.2.2.2.2)
    obtain ⟨h0, h1, h2, h3, h4, h5, h6⟩ := seven_froz (show Blk _ _ _ [.int .i64 0, .int .i64 0, .int .i64 0, .int .i64 0, .int .i64 0, .int .i64 0, .string ByteArray.empty] from Q12.out.2.2.2.2)
    go_wp2_with fail
    obtain ⟨w12, hw12⟩ : ∃ w12, w12 = (((((wP.alloc (.cells #[.slice (some gT) us.length cT] 26)).setCell ⟨wC.heap.size, 1, none⟩ (.slice (some gT) us.length cT)).setCell ⟨w.heap.size + 1, 0, none⟩ (.int .i64 50)).setCell ⟨w.heap.size + 1, 1, none⟩ (.int .i64 q)).setCell ⟨w.heap.size + 1, 2, none⟩ (.int .i64 ta)).setCell ⟨w.heap.size + 1, 3, none⟩ (.int .i64 tp) := ⟨_, rfl⟩
    rw [← hw12] at Q12 OU12 KX12 r0 r1 r2 f0 f1 f2 q0 q1 q2 q3 q4 q5 q6 h0 h1 h2 h3 h4 h5 h6
    rw [← hw12]
    clear hw12 s0 s1 s2 s3 s4 s5 s6 t0 t1 j0 j1 j2 j3 j4 j5 j6 Q9 p0 p1 p2 g0 g1' g2' k0 E2
    have BR : Hid (Rz wC.heap.size (w.heap.size + 1) (.slice (some x1) b.rs.length d1) (.slice (some gT) us.length cT) (.slice (some x3) b.cs.length d3) (.int .i64 50) (.int .i64 q) (.int .i64 ta) (.int .i64 tp) (.int .i64 sq) (.int .i64 ak) (.string d) w12) := Rz.of KX12.out Q12.out.2.2.1
    clear KX12
    go_region_held3 (fun w' => w'.cell? ⟨wC.heap.size, 0, none⟩ = some (.slice (some x1) b.rs.length d1) ∧ w'.cell? ⟨wC.heap.size, 1, none⟩ = some (.slice (some gT) us.length cT) ∧ w'.cell? ⟨wC.heap.size, 2, none⟩ = some (.slice (some x3) b.cs.length d3) ∧ w'.cell? ⟨w.heap.size + 1, 0, none⟩ = some (.int .i64 50) ∧ w'.cell? ⟨w.heap.size + 1, 1, none⟩ = some (.int .i64 q) ∧ w'.cell? ⟨w.heap.size + 1, 2, none⟩ = some (.int .i64 ta) ∧ w'.cell? ⟨w.heap.size + 1, 3, none⟩ = some (.int .i64 tp) ∧ w'.cell? ⟨w.heap.size + 1, 4, none⟩ = some (.int .i64 sq) ∧ w'.cell? ⟨w.heap.size + 1, 5, none⟩ = some (.int .i64 ak) ∧ w'.cell? ⟨w.heap.size + 1, 6, none⟩ = some (.string d))
      (first
        | (show Rz wC.heap.size (w.heap.size + 1) (.slice (some x1) b.rs.length d1) (.slice (some gT) us.length cT) (.slice (some x3) b.cs.length d3) (.int .i64 50) (.int .i64 q) (.int .i64 ta) (.int .i64 tp) (.int .i64 sq) (.int .i64 ak) (.string d) _; repeat (first | with_reducible exact BR.out | with_reducible refine Rz.drew ?_ | with_reducible refine Rz.set ?_ (by omega) (by omega) _ _))
        | (trace_state; fail))
      (fail)
    all_goals
      go_wp2_with fail
      have e1 := put10_box Q12.out.2.2.2.1 (.slice (some x1) b.rs.length d1) (.slice (some gT) us.length cT) (.slice (some x3) b.cs.length d3) (.int .i64 50) (.int .i64 q) (.int .i64 ta) (.int .i64 tp) (.int .i64 sq) (.int .i64 ak) (.string d)
      have e2 := put10_seg (show Blk _ _ _ [.int .i64 0, .int .i64 0, .int .i64 0, .int .i64 0, .int .i64 0, .int .i64 0, .string ByteArray.empty] from Q12.out.2.2.2.2) (.slice (some x1) b.rs.length d1) (.slice (some gT) us.length cT) (.slice (some x3) b.cs.length d3) (.int .i64 50) (.int .i64 q) (.int .i64 ta) (.int .i64 tp) (.int .i64 sq) (.int .i64 ak) (.string d)
      have hB := (put10_below Q12.out.1 (Nat.le_refl _) (.slice (some x1) b.rs.length d1) (.slice (some gT) us.length cT) (.slice (some x3) b.cs.length d3) (.int .i64 50) (.int .i64 q) (.int .i64 ta) (.int .i64 tp) (.int .i64 sq) (.int .i64 ak) (.string d)).drew
      have hO := put10_own OU12.out ZZ.out (.slice (some x1) b.rs.length d1) (.slice (some gT) us.length cT) (.slice (some x3) b.cs.length d3) (.int .i64 50) (.int .i64 q) (.int .i64 ta) (.int .i64 tp) (.int .i64 sq) (.int .i64 ak) (.string d)
      obtain ⟨W, hW⟩ : ∃ W, W = put10 w12 w.heap.size (.slice (some x1) b.rs.length d1) (.slice (some gT) us.length cT) (.slice (some x3) b.cs.length d3) (.int .i64 50) (.int .i64 q) (.int .i64 ta) (.int .i64 tp) (.int .i64 sq) (.int .i64 ak) (.string d) := ⟨_, rfl⟩
      rw [← hW] at e1 e2 hB hO
      unfold put10 at hW
      rw [← hW]
      clear hW
      obtain ⟨⟨y0, y1, y2⟩, -⟩ := three_all (show Blk W.drew _ _ _ from e1)
      obtain ⟨z0, z1, z2, z3, z4, z5, z6⟩ := seven_all (show Blk W.drew _ _ _ from e2)
      have hO2 : OwB W.drew w6.heap.size (.agg #[.slice (some x1) b.rs.length d1, .slice (some gT) us.length cT, .slice (some x3) b.cs.length d3]) ⟨b.rs, us, b.cs⟩ := OwB.later hO (Below.refl _ _).drew
      have HZ := ZZ.out
      refine bodyPost_ret (v := .tuple #[.agg #[.slice (some x1) b.rs.length d1, .slice (some gT) us.length cT, .slice (some x3) b.cs.length d3], .agg #[.int .i64 50, .int .i64 q, .int .i64 ta, .int .i64 tp, .int .i64 sq, .int .i64 ak, .string d], .bool true]) (by simp [results, Tryz.results8, go_sem, y0, y1, y2, z0, z1, z2, z3, z4, z5, z6]) rfl ⟨_, rfl, hO2.base (by omega), hB⟩

end Go.Proofs.YtgfkiljkpkfapaaGreatDoor

/- A part of a box that is ok is ok; one with a stream twice is not. No condition. -/
namespace Go.Proofs.YtgfkiljkpkfapaaGreatDoor
open Go.RowKit Go.Sort

theorem boxOk_of {b : Bx} (h1 : mapB b.es = true) (h2 : rulesB b.rs = true) (h3 : b.cs.length ≤ 3) (h4 : ∀ k, k < b.cs.length → connB b.es b.cs k = true) : boxOkB b = true := by
  unfold boxOkB
  rw [h1, h2, decide_eq_true h3]
  simp only [Bool.true_and]
  exact List.all_eq_true.2 fun k hk => h4 k (by simpa using hk)
theorem box_norules {b : Bx} (h : boxOkB b = true) : boxOkB ⟨[], b.es, b.cs⟩ = true := by
  obtain ⟨h1, -, h3, h4⟩ := boxOk_parts h
  exact boxOk_of h1 (by rfl) h3 h4
theorem box_less {b : Bx} (h : boxOkB b = true) (m : Nat) : boxOkB ⟨b.rs, b.es, b.cs.take m⟩ = true := by
  obtain ⟨h1, h2, h3, h4⟩ := boxOk_parts h
  refine boxOk_of h1 h2 (by show (b.cs.take m).length ≤ 3; rw [List.length_take]; omega) fun k hk => ?_
  have hk1 : k < m ∧ k < b.cs.length := by
    have h5 : k < (b.cs.take m).length := hk
    rw [List.length_take] at h5; omega
  have h6 := h4 k hk1.2
  show connB b.es (b.cs.take m) k = true
  unfold connB at h6 ⊢
  have e1 : (b.cs.take m).getD k default = b.cs.getD k default := by
    rw [getD_at (by rw [List.length_take]; omega), getD_at hk1.2, List.getElem_take]
  have e2 : (b.cs.take m).take k = b.cs.take k := by
    rw [List.take_take, Nat.min_eq_left (by omega)]
  rw [e1, e2]
  exact h6
theorem box_twice {b : Bx} {x : Cn} {r : List Cn} (hc : b.cs = x :: r) : boxOkB ⟨b.rs, b.es, b.cs ++ [x]⟩ = false := by
  cases h : boxOkB ⟨b.rs, b.es, b.cs ++ [x]⟩ with
  | false => rfl
  | true =>
    exfalso
    obtain ⟨-, -, -, h4⟩ := boxOk_parts h
    have h5 := (conn_parts (h4 b.cs.length (by simp))).2.2.2.2.2.2.2.2
    have e1 : (b.cs ++ [x]).getD b.cs.length default = x := by
      rw [getD_at (by simp)]
      simp
    have e2 : (b.cs ++ [x]).take b.cs.length = b.cs := by simp
    simp only [e1, e2] at h5
    have h6 : findCn b.cs x.ia x.ip x.oa x.op = ((0 : Nat) : Int) := by
      rw [hc]
      exact findCn_hit (k := 0) (by simp) (by simp [sameCn]) (fun j hj => by omega)
    omega

end Go.Proofs.YtgfkiljkpkfapaaGreatDoor

/- Plain facts on the texts of ends and the lines that name them: what is read is what is written. No condition. -/
namespace Go.Proofs.YtgfkiljkpkfapaaGreatDoor
open Go.RowKit

end Go.Proofs.YtgfkiljkpkfapaaGreatDoor

/- Lines that have gone outside: none has a sign, none names an end inside, and they go outside as they are. No condition. -/
namespace Go.Proofs.YtgfkiljkpkfapaaGreatDoor
open Go.RowKit

end Go.Proofs.YtgfkiljkpkfapaaGreatDoor
