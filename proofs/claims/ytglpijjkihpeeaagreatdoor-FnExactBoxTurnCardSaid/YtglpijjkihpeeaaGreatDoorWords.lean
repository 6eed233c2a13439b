/- l1Words of the specification: a text's words, one space between, in a list of the call's own. Condition: the text has at most 2^21 bytes. -/
import Derived.Test.YtglpijjkihpeeaaGreatDoorNumber
namespace Go.Proofs.YtglpijjkihpeeaaGreatDoor
open Go.RowKit

theorem wordsF_len (l : List UInt8) : (wordsF l).1.length ≤ l.length := by
  have := wordsL_len l
  unfold wordsL at this
  simp at this; omega

theorem wordsF_len2 (l : List UInt8) : (wordsF l).2.length ≤ l.length := by
  have := congrArg List.length (flatW_fold l ([], []))
  simp [flatW] at this
  unfold wordsF; omega
set_option maxRecDepth 100000 in
set_option maxHeartbeats 800000 in
theorem specWords_any (s : ByteArray) (w : World) (hs : s.size ≤ 2097152) :
    Calls Tryz.prog 196 #[.string s] w fun e w' => ∃ v, e = .returned v ∧ w'.ownsRow w.heap.size 9 1 v (wordsL s.data.toList).length ((wordsL s.data.toList).map strV) ∧ Below w.heap.size w w' := by
  obtain ⟨i0, hi, hz0, hz1, hz2⟩ := info_parts infoStr
  go_enter Tryz.func196, Tryz.ntmps196
  go_wp2
  go_loopw [3, 4, 5] (fun v x i wr => ∃ k : Nat, k ≤ s.size ∧ i = .int .i64 k ∧ x = .string ⟨(wordsF (s.data.toList.take k)).2.toArray⟩ ∧ wr.ownsRow w.heap.size 9 1 v (wordsF (s.data.toList.take k)).1.length ((wordsF (s.data.toList.take k)).1.map strV) ∧ Below w.heap.size w wr)
    (fun _ _ i _ => s.size - (intOf i).toNat)
  case atStart => exact ⟨0, Nat.zero_le _, rfl, rfl, World.ownsRow_made w #[] 0 (Nat.le_refl _) (Nat.zero_le _) rfl, (Below.refl _ _).alloc (Nat.le_refl _) _⟩
  case round =>
    obtain ⟨k, hk, rfl, rfl, hown, hb⟩ := hrel
    have hlen := wordsF_len (s.data.toList.take k)
    have hlen3 := wordsF_len2 (s.data.toList.take k)
    have hlen2 : (s.data.toList.take k).length ≤ s.size := by simp; omega
    have hbs := hb.size
    obtain ⟨W0, hW0⟩ : ∃ x, x = wordsF (s.data.toList.take k) := ⟨_, rfl⟩
    rw [← hW0] at hown hlen hlen3 ⊢
    have HW : Hid (W0 = wordsF (s.data.toList.take k)) := hW0
    clear hW0
    by_cases hlt : k < s.size
    · have hsn : Hid (wordsF (s.data.toList.take (k + 1)) = stp W0 s[k]) := by
        show wordsF (s.data.toList.take (k + 1)) = stp W0 s[k]
        rw [take_snoc s k hlt, wordsF_snoc, HW.out]
      by_cases h32 : s[k] = 32
      · have ht : (((s[k]).toNat : Int) == 32) = true := by rw [h32]; rfl
        have H32 : Hid (s[k] = 32) := h32
        clear h32
        go_wp2_with (at_builtin; refine wpList_append_own _ rfl (.tmp 17) (.tmp 19) 174 rfl w.heap.size 9 i0 (.string ⟨#[]⟩) 1 16 Tryz.underlying174 hi hz0 hz1 hz2 rfl (by decide) _ _ _ rfl (hown.alloc _) ⟨wr.heap.size, 0, none⟩ 1 1 [.string ⟨W0.2.toArray⟩] rfl rfl ?c1 ?c2 ?c3 ?c4 ?c5 ?_)
        case c1 =>
          intro j u hj
          match j, hj with
          | 0, hj => simp at hj; subst hj; simp [Addr.add]
        case c2 => intro u hu; simp at hu; subst hu; rfl
        case c3 => unfold maxLen; omega
        case c4 => omega
        case c5 => simp; omega
        · intro v' w1 hown' hgrow _
          go_wp2
          go_roundw
          case rel =>
            refine ⟨k + 1, by omega, by go_num, ?_, ?_, ?_⟩
            · rw [hsn.out, stp, if_pos H32.out]
            · rw [hsn.out, stp, if_pos H32.out]; simpa [strV] using hown'
            · exact (hb.alloc hbs _).grown hgrow (by simp; omega) (fun k hk => (hown.lt k hk).1)
          case measure => simp [intOf]; omega
      · have ht : (((s[k]).toNat : Int) == 32) = false := by
          have e32 : (32 : UInt8).toNat = 32 := rfl
          simp; intro e; exact h32 (UInt8.toNat_inj.1 (by omega))
        have H32 : Hid (¬ s[k] = 32) := h32
        clear h32
        go_wp2
        go_roundw
        case rel =>
          refine ⟨k + 1, by omega, by go_num, ?_, ?_, hb⟩
          · rw [hsn.out, stp, if_neg H32.out, ext_one s k hlt]
          · rw [hsn.out, stp, if_neg H32.out]; exact hown
        case measure => simp [intOf]; omega
    · have hke : s.data.toList.take k = s.data.toList := List.take_of_length_le (by simp; omega)
      have HK : Hid (s.data.toList.take k = s.data.toList) := hke
      clear hke
      go_wp2_with (at_builtin; refine wpList_append_own _ rfl (.tmp 28) (.tmp 30) 174 rfl w.heap.size 9 i0 (.string ⟨#[]⟩) 1 16 Tryz.underlying174 hi hz0 hz1 hz2 rfl (by decide) _ _ _ rfl (hown.alloc _) ⟨wr.heap.size, 0, none⟩ 1 1 [.string ⟨W0.2.toArray⟩] rfl rfl ?d1 ?d2 ?d3 ?d4 ?d5 ?_)
      case d1 =>
        intro j u hj
        match j, hj with
        | 0, hj => simp at hj; subst hj; simp [Addr.add]
      case d2 => intro u hu; simp at hu; subst hu; rfl
      case d3 => unfold maxLen; omega
      case d4 => omega
      case d5 => simp; omega
      · intro v' w1 hown' hgrow _
        go_wp2
        go_ret
        have he : wordsL s.data.toList = W0.1 ++ [W0.2] := by unfold wordsL; rw [HW.out, HK.out]
        refine ⟨_, rfl, ?_, ?_⟩
        · rw [he]; simpa [strV] using hown'
        · exact (hb.alloc hbs _).grown hgrow (by simp; omega) (fun k hk => (hown.lt k hk).1)

end Go.Proofs.YtglpijjkihpeeaaGreatDoor
