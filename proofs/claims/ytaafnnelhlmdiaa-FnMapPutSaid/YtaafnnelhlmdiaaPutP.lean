/- An end more in a table, as data: who has which port then. No condition. -/
import Derived.Test.YtaafnnelhlmdiaaMapP
import Derived.Test.YtaafnnelhlmdiaaIMapPut
namespace Go.Proofs.Ytaafnnelhlmdiaa
open Go.RowKit

theorem findI_app {us vs : List (Int × Int)} {x : Int × Int} (h : x ∈ us) : findI (us ++ vs) x = findI us x := by
  obtain ⟨k, hk, he, hn, hf⟩ := findI_mem h
  rw [hf]
  refine findI_hit (by rw [List.length_append]; omega) (by rw [List.getElem_append_left hk]; exact he) (fun j hj hje => hn ?_)
  rw [List.getElem_append_left (by omega)] at hje
  exact List.mem_take_iff_getElem.2 ⟨j, by omega, hje⟩
theorem portI_app {us vs : List (Int × Int)} {x : Int × Int} (h : x ∈ us) : portI (us ++ vs) x = portI us x := by
  unfold portI; rw [findI_app h]
theorem portI_pos' {es : List (Int × Int)} {e : Int × Int} : 0 < portI es e ↔ e ∈ es := by
  constructor
  · intro h
    refine Classical.byContradiction fun hn => ?_
    unfold portI at h
    rw [if_pos (findI_neg.2 hn)] at h
    omega
  · intro h
    unfold portI
    rw [if_neg (fun h2 => findI_neg.1 h2 h)]
    have := findI_bounds es e
    have h3 : ¬ findI es e < 0 := fun h2 => findI_neg.1 h2 h
    omega
theorem putE_fst (us : List (Int × Int)) (e : Int × Int) : (putE us e).1 = if e ∈ us ∨ us.length = 6 then us else us ++ [e] := by
  by_cases h : e ∈ us
  · rw [putE_has h, if_pos (.inl h)]
  · by_cases h6 : us.length = 6
    · rw [putE_full h h6, if_pos (.inr h6)]
    · rw [putE_new h h6, if_neg (by rintro (h1 | h1); exact h h1; exact h6 h1)]
theorem putE_pre (us : List (Int × Int)) (e : Int × Int) : ∃ t, (putE us e).1 = us ++ t ∧ t.length ≤ 1 := by
  rw [putE_fst]
  split
  · exact ⟨[], by simp, by simp⟩
  · exact ⟨[e], rfl, by simp⟩
theorem putE_port {us : List (Int × Int)} {e : Int × Int} (h : (putE us e).2 ≠ 0) : portI (putE us e).1 e = (putE us e).2 := by
  by_cases hm : e ∈ us
  · rw [putE_has hm]
  · by_cases h6 : us.length = 6
    · rw [putE_full hm h6] at h; exact absurd rfl h
    · rw [putE_new hm h6]
      show portI (us ++ [e]) e = _
      unfold portI
      have : findI (us ++ [e]) e = (us.length : Int) := by
        refine findI_hit (k := us.length) (by simp) (by simp) (fun j hj hje => hm ?_)
        rw [List.getElem_append_left hj] at hje
        rw [← hje]; exact List.getElem_mem _
      rw [this, if_neg (by omega)]
theorem putE_zero {us : List (Int × Int)} {e : Int × Int} (h : (putE us e).2 = 0) : portI us e = 0 ∧ us.length = 6 ∧ (putE us e).1 = us := by
  by_cases hm : e ∈ us
  · have := portI_pos'.2 hm
    rw [putE_has hm] at h
    simp only at h
    omega
  · by_cases h6 : us.length = 6
    · refine ⟨?_, h6, by rw [putE_full hm h6]⟩
      have : ¬ 0 < portI us e := fun h2 => hm (portI_pos'.1 h2)
      unfold portI at this ⊢
      rw [if_pos (findI_neg.2 hm)]
    · rw [putE_new hm h6] at h
      simp only at h
      omega
theorem putE_had {us : List (Int × Int)} {e : Int × Int} (h : portI us e ≠ 0) : portI us e = (putE us e).2 := by
  have hm : e ∈ us := by
    refine Classical.byContradiction fun hn => ?_
    unfold portI at h
    rw [if_pos (findI_neg.2 hn)] at h
    exact h rfl
  rw [putE_has hm]
theorem putE_snd_bound (us : List (Int × Int)) (e : Int × Int) (h6 : us.length ≤ 6) : 0 ≤ (putE us e).2 ∧ (putE us e).2 ≤ 506 := by
  have hb := findI_bounds us e
  unfold putE
  split
  · unfold portI; simp only; split <;> omega
  · split
    · simp
    · simp only; omega
theorem put_two_len (us : List (Int × Int)) (a b : Int × Int) : (putE (putE us a).1 b).1.length = (putE (putE us b).1 a).1.length := by
  simp only [putE_fst]
  by_cases ha : a ∈ us <;> by_cases hb : b ∈ us <;> by_cases h6 : us.length = 6 <;> by_cases h5 : us.length = 5 <;> by_cases hab : a = b <;> first
    | (subst hab; rfl)
    | (have hba : ¬ b = a := fun h => hab h.symm
       simp [ha, hb, h6, h5, hab, hba])
theorem put_two_has {us : List (Int × Int)} {a b : Int × Int} (hno : ¬ (a ∈ (putE (putE us a).1 b).1 ∧ b ∈ (putE (putE us a).1 b).1)) : 5 ≤ us.length ∧ (us.length = 6 ∨ a ∈ (putE (putE us a).1 b).1) := by
  simp only [putE_fst] at hno ⊢
  by_cases ha : a ∈ us <;> by_cases hb : b ∈ us <;> by_cases h6 : us.length = 6 <;> by_cases h5 : us.length = 5 <;> by_cases hab : a = b <;> first
    | (subst hab; simp [ha, h6, h5] at hno ⊢ <;> omega)
    | (have hba : ¬ b = a := fun h => hab h.symm
       simp [ha, hb, h6, h5, hab, hba] at hno ⊢ <;> omega)

end Go.Proofs.Ytaafnnelhlmdiaa
