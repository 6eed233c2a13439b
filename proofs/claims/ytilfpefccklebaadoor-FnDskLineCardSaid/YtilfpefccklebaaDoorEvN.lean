/- readNumbers of the program: the numbers that words are, up to the first that is none. Condition: at most 1000 words. -/
import Derived.Test.YtilfpefccklebaaDoorEvG
import Derived.Test.YtilfpefccklebaaDoorSEvM
import Derived.Deep.RegionWith
import Derived.WalkMore
namespace Go.Proofs.YtilfpefccklebaaDoor
open Go.RowKit

set_option maxRecDepth 100000 in
set_option maxHeartbeats 400000 in
theorem isDigit_any (c : UInt8) (w : World) :
    Calls Tryd.prog 75 #[.int .u8 c.toNat] w fun e w' => e = .returned (.bool (decide (isDig c))) ∧ Below w.heap.size w w' := by
  have hc := c.toNat_lt
  by_cases h1 : 48 ≤ c.toNat
  · by_cases h2 : c.toNat ≤ 57
    · have e1 : decide ((48 : Int) ≤ (c.toNat : Int)) = true := by simp; omega
      have e2 : decide ((c.toNat : Int) ≤ 57) = true := by simp; omega
      have e : Hid (isDig c) := ⟨h1, h2⟩
      go_enter Tryd.func75, Tryd.ntmps75
      go_wp2
      go_ret
      exact ⟨ret_bool (by simp [e.out]), Below.refl _ _⟩
    · have e1 : decide ((48 : Int) ≤ (c.toNat : Int)) = true := by simp; omega
      have e2 : decide ((c.toNat : Int) ≤ 57) = false := by simp; omega
      have e : Hid (¬ isDig c) := fun h => h2 h.2
      go_enter Tryd.func75, Tryd.ntmps75
      go_wp2
      go_ret
      exact ⟨ret_bool (by simp [e.out]), Below.refl _ _⟩
  · have e1 : decide ((48 : Int) ≤ (c.toNat : Int)) = false := by simp; omega
    have e : Hid (¬ isDig c) := fun h => h1 h.1
    go_enter Tryd.func75, Tryd.ntmps75
    go_wp2
    go_ret
    exact ⟨ret_bool (by simp [e.out]), Below.refl _ _⟩

theorem len_not {x : List UInt8} (h : ¬ goodN x) : numL x < 0 := num_neg h
set_option maxRecDepth 100000 in
set_option maxHeartbeats 3200000 in
theorem readNumbers_any (r : List (List UInt8)) (g o cap : Nat) (w : World) (hr : r.length ≤ 1000) (hcap : r.length ≤ cap) (hg : g < w.heap.size) (row : ∀ j (hj : j < r.length), w.cell? ⟨g, o + j, none⟩ = some (strV r[j])) (hsz : ∀ x ∈ r, x.length ≤ 1000000) :
    Calls Tryd.prog 55 #[.slice (some ⟨g, o, none⟩) r.length cap] w fun e w' => ∃ v, e = .returned v ∧ w'.ownsRow w.heap.size 3 1 v (leadN r).length ((leadN r).map numV) ∧ Below w.heap.size w w' := by
  obtain ⟨i0, hi, hz0, hz1, hz2⟩ := info_parts infoIntD
  have HI := Lib.hid hi
  clear hi
  have HR := Lib.hid row
  have HSZ := Lib.hid hsz
  clear row hsz
  go_enter Tryd.func55, Tryd.ntmps55
  go_wp2
  go_step3
  go_wp2
  go_step3
  go_wp2
  go_loopw [3, 11] (fun v i wr => ∃ k : Nat, k ≤ r.length ∧ i = .int .i64 k ∧ wr.ownsRow w.heap.size 3 1 v k ((r.take k).map numV) ∧ allN (r.take k) = true ∧ Below w.heap.size w wr) (fun _ i _ => r.length - (intOf i).toNat)
  case atStart => exact ⟨0, Nat.zero_le _, rfl, ⟨rfl, .inl ⟨rfl, rfl⟩⟩, rfl, Below.refl _ _⟩
  case round =>
    obtain ⟨k, hk, rfl, hown, hall, hb⟩ := hrel
    have hbs := hb.size
    have HA := Lib.hid hall
    have HB := Lib.hid hb
    clear hall
    have hln : ((r.take k).map numV).length = k := by simp; omega
    have HO := Lib.hid hown
    by_cases hlt : k < r.length
    · have hc := (hb.cell (p := ⟨g, o + k, none⟩) hg).trans (HR.out k hlt)
      unfold strV at hc
      obtain ⟨X, hX⟩ : ∃ X : ByteArray, X = ⟨r[k].toArray⟩ := ⟨_, rfl⟩
      rw [← hX] at hc
      have hXd : X.data.toList = r[k] := by rw [hX]
      have hXs : X.size ≤ 1000000 := by rw [← len_list, hXd]; exact HSZ.out _ (List.getElem_mem _)
      have HX := Lib.hid hXd
      have HNo : Hid (¬ goodN X.data.toList → leadN r = r.take k) := fun h => leadN_stop hlt HA.out (by rw [← hXd]; exact num_neg h)
      clear hX hXd hb
      have hk3 : (k : Int) < (r.length : Int) := by omega
      have hk4 : (k : Int) ≤ (cap : Int) := by omega
      obtain ⟨av, cv, rfl⟩ := own_form hown
      clear hown
      by_cases hx0 : X.size = 0
      · have hxe : (X.toList == ([] : List UInt8)) = true := by
          have : X.data.toList = [] := List.eq_nil_of_length_eq_zero (by rw [len_list]; exact hx0)
          rw [Lib.toList_data, this]; rfl
        have HE : Hid (leadN r = r.take k) := HNo.out (fun h => by have := h.1; rw [len_list] at this; omega)
        clear HNo HX
        go_wp2
        try rw [Exit.noGoto_ret]
        go_ret
        rw [HE.out]
        exact ⟨_, rfl, by rw [show (r.take k).length = k by simp; omega]; exact HO.out, HB.out⟩
      · have hxe : (X.toList == ([] : List UInt8)) = false := by
          have : X.data.toList ≠ [] := fun e => hx0 (by rw [← len_list, e]; rfl)
          rw [Lib.toList_data]; simpa using this
        have hx1 : 0 < X.size := by omega
        have HNW : Hid (∀ wi, Below wr.heap.size wr wi → wi.ownsRow w.heap.size 3 1 (.slice av k cv) k ((r.take k).map numV) ∧ Below w.heap.size w wi) := fun wi h => ⟨own_below HO.out h, HB.out.trans (h.mono hbs)⟩
        go_wp2_with fail
        go_loopw [6, 19] (fun n i wi => ∃ j : Nat, j ≤ X.size ∧ i = .int .i64 j ∧ n = .int .i64 (valL (X.data.toList.take j)) ∧ (∀ c ∈ X.data.toList.take j, isDig c) ∧ j ≤ 4 ∧ (∀ q, 0 < q → q < j → valL (X.data.toList.take q) ≠ 0) ∧ Below wr.heap.size wr wi) (fun _ i _ => X.size - (intOf i).toNat)
        case atStart => exact ⟨0, Nat.zero_le _, rfl, rfl, by simp, by omega, fun q h1 h2 => by omega, Below.refl _ _⟩
        case round =>
          obtain ⟨j, hj, rfl, rfl, hd, hj4, hz, hbi⟩ := hrel
          have hbis := hbi.size
          have hv := valL_lt _ hd
          have hvl : (X.data.toList.take j).length ≤ 4 := by simp; omega
          have hv2 : valL (X.data.toList.take j) < 10000 := Nat.lt_of_lt_of_le hv (Nat.pow_le_pow_right (by omega) hvl)
          clear hv hvl
          have HD := Lib.hid hd
          have HZ := Lib.hid hz
          have HBI := Lib.hid hbi
          clear hd hz
          by_cases hjl : j < X.size
          · by_cases c4 : j = 4
            · have e4 : ((j : Int) == 4) = true := by rw [c4]; rfl
              have HE : Hid (leadN r = r.take k) := HNo.out (fun h => by have := h.2.1; rw [len_list] at this; omega)
              obtain ⟨on, bn⟩ := HNW.out _ hbi
              have ej : (0 : Int) < (j : Int) := by omega
              clear hbi c4
              go_wp2
              all_goals
                try rw [Exit.noGoto_ret]
                go_ret
                rw [HE.out]
                exact ⟨_, rfl, by rw [show (r.take k).length = k by simp; omega]; exact on, bn⟩
            · have e4 : ((j : Int) == 4) = false := by simp; omega
              by_cases hzz : 0 < j ∧ valL (X.data.toList.take j) = 0
              · have ej : (0 : Int) < (j : Int) := by omega
                have ev : (((valL (X.data.toList.take j) : Nat) : Int) == 0) = true := by rw [hzz.2]; rfl
                have HE : Hid (leadN r = r.take k) := HNo.out (fun h => h.2.2.2 j hzz.1 (by rw [len_list]; exact hjl) hzz.2)
                obtain ⟨on, bn⟩ := HNW.out _ hbi
                clear hbi hzz
                go_wp2
                try rw [Exit.noGoto_ret]
                go_ret
                rw [HE.out]
                exact ⟨_, rfl, by rw [show (r.take k).length = k by simp; omega]; exact on, bn⟩
              · have hcase : (¬ ((0 : Int) < (j : Int))) ∨ ((0 : Int) < (j : Int) ∧ (((valL (X.data.toList.take j) : Nat) : Int) == 0) = false) := by
                  by_cases h0 : 0 < j
                  · right
                    refine ⟨by omega, ?_⟩
                    have : valL (X.data.toList.take j) ≠ 0 := fun e => hzz ⟨h0, e⟩
                    simp; omega
                  · left; omega
                have HZZ := Lib.hid hzz
                clear hzz
                have HT : Hid (X.data.toList.take (j + 1) = X.data.toList.take j ++ [X[j]]) := take_snoc X j hjl
                by_cases hdig : isDig X[j]
                · have hdec : decide (isDig X[j]) = true := by simpa using hdig
                  have hd2 := hdig
                  unfold isDig at hd2
                  have HDG := Lib.hid hdig
                  clear hdig
                  rcases hcase with ej | ⟨ej, ev⟩
                  all_goals
                    go_wp2_with (go_at_call 75; refine (isDigit_any _ _).mono ?_; rintro e w5 ⟨rfl, b5⟩; simp only [hdec])
                    go_roundw
                    case rel =>
                      refine ⟨j + 1, by omega, by go_num, ?_, ?_, by omega, ?_, HBI.out.trans (b5.mono hbis)⟩
                      · rw [HT.out, valL_snoc]
                        congr 1; omega
                      · rw [HT.out]; intro c hc
                        rcases List.mem_append.1 hc with hc | hc
                        · exact HD.out c hc
                        · simp at hc; subst hc; exact HDG.out
                      · intro q h1 h2
                        by_cases hq : q = j
                        · subst hq; exact fun e => HZZ.out ⟨h1, e⟩
                        · exact HZ.out q h1 (by omega)
                    case measure => simp [intOf]; omega
                · have hdec : decide (isDig X[j]) = false := by simpa using hdig
                  have HE : Hid (leadN r = r.take k) := HNo.out (fun h => hdig (h.2.2.1 _ (mem_at X j hjl)))
                  clear hdig
                  rcases hcase with ej | ⟨ej, ev⟩
                  all_goals
                    go_wp2_with (go_at_call 75; refine (isDigit_any _ _).mono ?_; rintro e w5 ⟨rfl, b5⟩; simp only [hdec])
                    try rw [Exit.noGoto_ret]
                    go_ret
                    rw [HE.out]
                    obtain ⟨on, bn⟩ := HNW.out _ (HBI.out.trans (b5.mono hbis))
                    exact ⟨_, rfl, by rw [show (r.take k).length = k by simp; omega]; exact on, bn⟩
          · have hje : j = X.size := by omega
            obtain ⟨nv, hnv⟩ : ∃ nv : Nat, nv = valL (X.data.toList.take j) := ⟨_, rfl⟩
            rw [← hnv] at hv2 ⊢
            subst hje
            have hta : X.data.toList.take X.size = X.data.toList := List.take_of_length_le (by rw [len_list]; exact Nat.le_refl _)
            have hgood : goodN X.data.toList := by
              refine ⟨by rw [len_list]; omega, by rw [len_list]; omega, ?_, ?_⟩
              · have := HD.out; rwa [hta] at this
              · have := HZ.out
                intro q h1 h2
                exact this q h1 (by rwa [len_list] at h2)
            have HG : Hid (numL X.data.toList = (nv : Nat)) := by rw [hnv, hta]; exact good_num hgood
            obtain ⟨on, bn⟩ := HNW.out _ hbi
            have hi := HI.out
            have zi := bn.size
            clear hgood hta hbi hnv HD HZ
            go_wp2_with (at_builtin; refine wpList_append_own _ rfl (.tmp 49) (.tmp 51) 53 rfl w.heap.size 3 i0 (.int .i64 0) 1 8 Tryd.underlying53 hi hz0 hz1 hz2 rfl (by decide) _ _ _ rfl (on.alloc _) ⟨wr.heap.size, 0, none⟩ 1 1 [.int .i64 (nv : Nat)] rfl rfl ?c1 ?c2 ?c3 ?c4 ?c5 ?_)
            case c1 =>
              intro j u hj
              match j, hj with
              | 0, hj => simp at hj; subst hj; simp [Addr.add]
            case c2 => intro u hu; simp at hu; subst hu; rfl
            case c3 => unfold maxLen; omega
            case c4 => omega
            case c5 => simp; omega
            · intro v' w4 hown' hgrow _
              go_wp2
              go_roundw
              case rel =>
                refine ⟨k + 1, by omega, by go_num, ?_, ?_, ?_⟩
                · rw [List.take_succ_eq_append_getElem hlt, List.map_append, List.map_take]
                  show World.ownsRow _ _ _ _ _ _ (_ ++ [numV r[k]])
                  unfold numV
                  rw [← HX.out, HG.out]; exact hown'
                · exact allN_take hlt HA.out (by rw [← HX.out, HG.out]; omega)
                · exact (bn.alloc zi _).grown hgrow (by simp; omega) (fun k hk => (on.lt k hk).1)
              case measure => simp [intOf]; omega
    · have hk' : k = r.length := by omega
      subst hk'
      rw [List.take_length] at HA HO
      have HE : Hid (leadN r = r) := leadN_all HA.out
      obtain ⟨av, cv, rfl⟩ := own_form hown
      clear hown
      go_wp2
      try rw [Exit.noGoto_ret]
      go_ret
      rw [HE.out]
      exact ⟨_, rfl, HO.out, HB.out⟩

end Go.Proofs.YtilfpefccklebaaDoor
