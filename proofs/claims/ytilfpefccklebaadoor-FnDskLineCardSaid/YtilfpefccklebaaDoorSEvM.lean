/- l9Nums of the specification: the numbers that words are; false, if one is none. Condition: at most 1000 words. -/
import Derived.Test.YtilfpefccklebaaDoorSEvN
namespace Go.Proofs.YtilfpefccklebaaDoor
open Go.RowKit

theorem infoIntD : (Tryd.prog.info? 3).map (fun i => (i.zero, i.size, i.bytes)) = some (some (.int .i64 0), 1, 8) := by kernel_rfl
def numV (y : List UInt8) : Value := .int .i64 (numL y)
theorem allN_take {r : List (List UInt8)} {k : Nat} (hk : k < r.length) (h : allN (r.take k) = true) (hn : 0 ≤ numL r[k]) : allN (r.take (k + 1)) = true := by
  unfold allN at h ⊢
  rw [List.take_succ_eq_append_getElem hk, List.all_append, h]
  simp [hn]
theorem allN_not {r : List (List UInt8)} {k : Nat} (hk : k < r.length) (hn : ¬ 0 ≤ numL r[k]) : allN r = false := by
  unfold allN
  rw [List.all_eq_false]
  exact ⟨r[k], List.getElem_mem _, by simpa using hn⟩

set_option maxRecDepth 100000 in
set_option maxHeartbeats 800000 in
theorem specNums_any (r : List (List UInt8)) (g o cap : Nat) (w : World) (hr : r.length ≤ 1000) (hcap : r.length ≤ cap) (hg : g < w.heap.size) (row : ∀ j (hj : j < r.length), w.cell? ⟨g, o + j, none⟩ = some (strV r[j])) :
    Calls Tryd.prog 28 #[.slice (some ⟨g, o, none⟩) r.length cap] w fun e w' => ∃ v ok, e = .returned (.tuple #[v, .bool ok]) ∧ ok = allN r ∧ (ok = true → w'.ownsRow w.heap.size 3 1 v r.length (r.map numV)) ∧ Below w.heap.size w w' := by
  obtain ⟨i0, hi, hz0, hz1, hz2⟩ := info_parts infoIntD
  have HI := Lib.hid hi
  clear hi
  have HR := Lib.hid row
  clear row
  go_enter Tryd.func28, Tryd.ntmps28
  go_wp2
  go_loopw [4, 5] (fun v i wr => ∃ k : Nat, k ≤ r.length ∧ i = .int .i64 k ∧ wr.ownsRow w.heap.size 3 1 v k ((r.take k).map numV) ∧ allN (r.take k) = true ∧ Below w.heap.size w wr) (fun _ i _ => r.length - (intOf i).toNat)
  case atStart => exact ⟨0, Nat.zero_le _, rfl, World.ownsRow_made w #[] 0 (Nat.le_refl _) (Nat.zero_le _) rfl, rfl, (Below.refl _ _).alloc (Nat.le_refl _) _⟩
  case round =>
    obtain ⟨k, hk, rfl, hown, hall, hb⟩ := hrel
    have hbs := hb.size
    have HA := Lib.hid hall
    clear hall
    by_cases hlt : k < r.length
    · have hc := (hb.cell (p := ⟨g, o + k, none⟩) hg).trans (HR.out k hlt)
      unfold strV at hc
      obtain ⟨x, hx⟩ : ∃ x, x = r[k] := ⟨_, rfl⟩
      rw [← hx] at hc
      have HX := Lib.hid hx
      clear hx
      have hk3 : (k : Int) < (r.length : Int) := by omega
      have hk4 : (k : Int) ≤ (cap : Int) := by omega
      have hln : ((r.take k).map numV).length = k := by simp; omega
      have HO := Lib.hid hown
      obtain ⟨av, cv, rfl⟩ := own_form hown
      clear hown
      go_wp2_with fail
      (go_at_call 53; refine (specNum_any _ _).mono ?_; rintro e w3 ⟨rfl, b3⟩; have own3 := own_below HO.out b3; have hb3 := hb.trans (b3.mono hbs); have hi := HI.out; have hz3 := hb3.size)
      by_cases hn : 0 ≤ numL x
      · have hn2 : decide (numL x < 0) = false := by simp; omega
        have HN := Lib.hid hn
        clear hn
        go_wp2_with (at_builtin; refine wpList_append_own _ rfl (.tmp 22) (.tmp 24) 53 rfl w.heap.size 3 i0 (.int .i64 0) 1 8 Tryd.underlying53 hi hz0 hz1 hz2 rfl (by decide) _ _ _ rfl (own3.alloc _) ⟨w3.heap.size, 0, none⟩ 1 1 [.int .i64 (numL x)] rfl rfl ?c1 ?c2 ?c3 ?c4 ?c5 ?_)
        case c1 =>
          intro j u hj
          match j, hj with
          | 0, hj => simp at hj; subst hj; simp [Addr.add]
        case c2 => intro u hu; simp at hu; subst hu; rfl
        case c3 => unfold maxLen; omega
        case c4 => omega
        case c5 => simp; omega
        · intro v' w4 hown' hgrow _
          go_wp2
          go_roundw
          case rel =>
            refine ⟨k + 1, by omega, by go_num, ?_, ?_, ?_⟩
            · rw [List.take_succ_eq_append_getElem hlt, ← HX.out, List.map_append, List.map_take]; exact hown'
            · exact allN_take hlt HA.out (by rw [← HX.out]; exact HN.out)
            · exact (hb3.alloc hz3 _).grown hgrow (by simp; omega) (fun k hk => (own3.lt k hk).1)
          case measure => simp [intOf]; omega
      · have hn2 : decide (numL x < 0) = true := by simp; omega
        have HN := Lib.hid hn
        clear hn
        go_wp2
        go_ret2
        refine ⟨_, _, rfl, ?_, by simp, (hb3.alloc hz3 _)⟩
        rw [allN_not hlt (by rw [← HX.out]; have := HN.out; omega)]
    · have hk' : k = r.length := by omega
      subst hk'
      rw [List.take_length] at hown HA
      go_wp2
      go_ret2
      exact ⟨_, _, rfl, HA.out.symm, fun _ => hown, hb⟩

end Go.Proofs.YtilfpefccklebaaDoor
