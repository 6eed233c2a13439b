/- Plain facts on lists of bytes: decimals are read as what they write; a text cut at its spaces. No program. No condition. -/
import Derived.Lib.ItoaNum
import Derived.Lib.AtoiAll
import Derived.Lib.IndexMore
namespace Go.Proofs.YtgfkiljkpkfapaaGreatDoor

/-- The last decimal digit of k, as a byte. -/
def dg (k : Nat) : UInt8 := UInt8.ofNat (48 + k % 10)
theorem dg_nat (k : Nat) : (dg k).toNat = 48 + k % 10 := by
  have : k % 10 < 10 := Nat.mod_lt _ (by omega)
  simp [dg]; omega
theorem dg_val (k : Nat) : ((dg k).toNat : Int) = 48 + (k : Int) % 10 := by
  rw [dg_nat]; omega
theorem dec_step {k : Nat} (h : 9 < k) : Lib.decDigits k = Lib.decDigits (k / 10) ++ [dg k] := by
  rw [Lib.decDigits, dif_neg (by omega)]; rfl
theorem dec_last {k : Nat} (h : k ≤ 9) : Lib.decDigits k = [dg k] := by
  rw [Lib.decDigits, dif_pos (by omega)]; simp [dg]; rw [Nat.mod_eq_of_lt (by omega)]
theorem byte_cat (b : UInt8) (l : List UInt8) : (⟨#[b]⟩ : ByteArray) ++ ⟨l.toArray⟩ = ⟨(b :: l).toArray⟩ := by
  apply ByteArray.ext; simp
theorem dec_len (k : Nat) : (Lib.decDigits k).length ≤ k + 1 := by
  induction k using Nat.strongRecOn with
  | _ k ih =>
    by_cases h : 9 < k
    · rw [dec_step h]; have := ih (k / 10) (by omega); simp; omega
    · rw [dec_last (by omega)]; simp
theorem dec_len4 {k : Nat} (h : k ≤ 9999) : (Lib.decDigits k).length ≤ 4 := by
  by_cases h1 : 9 < k
  · rw [dec_step h1]
    by_cases h2 : 9 < k / 10
    · rw [dec_step h2]
      by_cases h3 : 9 < k / 10 / 10
      · rw [dec_step h3, dec_last (by omega)]; simp
      · rw [dec_last (by omega)]; simp
    · rw [dec_last (by omega)]; simp
  · rw [dec_last (by omega)]; simp
theorem dec_pos (k : Nat) : 1 ≤ (Lib.decDigits k).length := by
  by_cases h : 9 < k
  · rw [dec_step h]; simp
  · rw [dec_last (by omega)]; simp

/-- A byte that is a decimal digit. -/
def isDig (c : UInt8) : Prop := 48 ≤ c.toNat ∧ c.toNat ≤ 57
instance (c : UInt8) : Decidable (isDig c) := by unfold isDig; infer_instance
theorem dec_digs (k : Nat) : ∀ c ∈ Lib.decDigits k, isDig c := by
  induction k using Nat.strongRecOn with
  | _ k ih =>
    have hk : isDig (dg k) := by unfold isDig; rw [dg_nat]; omega
    by_cases h : 9 < k
    · rw [dec_step h]; intro c hc
      rcases List.mem_append.1 hc with hc | hc
      · exact ih (k / 10) (by omega) c hc
      · simp at hc; subst hc; exact hk
    · rw [dec_last (by omega)]; intro c hc; simp at hc; subst hc; exact hk

/-- What digits are worth. -/
def valL (l : List UInt8) : Nat := l.foldl (fun n c => n * 10 + (c.toNat - 48)) 0
theorem valL_snoc (l : List UInt8) (c : UInt8) : valL (l ++ [c]) = valL l * 10 + (c.toNat - 48) := by simp [valL]
theorem valL_dec (k : Nat) : valL (Lib.decDigits k) = k := by
  induction k using Nat.strongRecOn with
  | _ k ih =>
    by_cases h : 9 < k
    · rw [dec_step h, valL_snoc, ih (k / 10) (by omega), dg_nat]; omega
    · rw [dec_last (by omega), show [dg k] = [] ++ [dg k] from rfl, valL_snoc, dg_nat]; simp [valL]; omega
theorem valL_lt (l : List UInt8) (h : ∀ c ∈ l, isDig c) : valL l < 10 ^ l.length := by
  have key : ∀ (l : List UInt8) (n : Nat), (∀ c ∈ l, isDig c) → l.foldl (fun n c => n * 10 + (c.toNat - 48)) n < (n + 1) * 10 ^ l.length := by
    intro l
    induction l with
    | nil => intro n _; simp
    | cons c r ih =>
      intro n h
      have hc : isDig c := h c (by simp)
      have := ih (n * 10 + (c.toNat - 48)) (fun d hd => h d (by simp [hd]))
      unfold isDig at hc
      rw [List.foldl_cons, List.length_cons, Nat.pow_succ]
      refine Nat.lt_of_lt_of_le this ?_
      rw [Nat.mul_comm (10 ^ r.length) 10, ← Nat.mul_assoc]
      exact Nat.mul_le_mul_right _ (by omega)
  have := key l 0 h
  simpa [valL] using this

/-- What the specification reads of a number of at most four digits; -1, if it is none. -/
def numL (l : List UInt8) : Int :=
  if l.length = 0 ∨ 4 < l.length then -1 else if ∀ c ∈ l, isDig c then (if Lib.decDigits (valL l) = l then (valL l : Int) else -1) else -1
theorem numL_dec {k : Nat} (h : k ≤ 9999) : numL (Lib.decDigits k) = k := by
  unfold numL
  have h1 := dec_pos k
  have h2 := dec_len4 h
  rw [if_neg (by omega), if_pos (dec_digs k), valL_dec, if_pos rfl]
theorem numL_inv {l : List UInt8} (h : 0 ≤ numL l) : l = Lib.decDigits (numL l).toNat := by
  unfold numL at h ⊢
  split at h
  · omega
  · rename_i h1
    rw [if_neg h1]
    split at h
    · rename_i h2
      rw [if_pos h2]
      split at h
      · rename_i h3
        rw [if_pos h3]
        simpa using h3.symm
      · omega
    · omega

/-- A text's words, one space between: those that have come to their end, and the last one. -/
def stp (x : List (List UInt8) × List UInt8) (c : UInt8) : List (List UInt8) × List UInt8 := if c = 32 then (x.1 ++ [x.2], []) else (x.1, x.2 ++ [c])
def wordsF (l : List UInt8) : List (List UInt8) × List UInt8 := l.foldl stp ([], [])
def wordsL (l : List UInt8) : List (List UInt8) := (wordsF l).1 ++ [(wordsF l).2]
theorem wordsF_snoc (l : List UInt8) (c : UInt8) : wordsF (l ++ [c]) = stp (wordsF l) c := by simp [wordsF]
def flatW (x : List (List UInt8) × List UInt8) : List UInt8 := (x.1.map (· ++ [32])).flatten ++ x.2
theorem flatW_stp (x : List (List UInt8) × List UInt8) (c : UInt8) : flatW (stp x c) = flatW x ++ [c] := by
  unfold stp flatW
  split
  · rename_i h; subst h; simp
  · simp
theorem flatW_fold (l : List UInt8) (x : List (List UInt8) × List UInt8) : flatW (l.foldl stp x) = flatW x ++ l := by
  induction l generalizing x with
  | nil => simp
  | cons c r ih => rw [List.foldl_cons, ih, flatW_stp]; simp
theorem words_two {l x y : List UInt8} (h : wordsL l = [x, y]) : l = x ++ 32 :: y := by
  have h1 := flatW_fold l ([], [])
  unfold wordsL at h
  have h2 : (wordsF l).1 = [x] ∧ (wordsF l).2 = y := by
    have := congrArg List.length h
    match hh : (wordsF l).1, h, this with
    | [a], h, _ => simp at h; exact ⟨by simp [h.1], h.2⟩
    | [], _, this => simp at this
    | _ :: _ :: _, _, this => simp at this
  have h3 : flatW (wordsF l) = x ++ [32] ++ y := by unfold flatW; rw [h2.1, h2.2]; simp
  have h4 : flatW (wordsF l) = l := by unfold wordsF; rw [h1]; simp [flatW]
  rw [← h4, h3]; simp
theorem fold_plain (l : List UInt8) (x : List (List UInt8) × List UInt8) (h : ∀ c ∈ l, c ≠ 32) : l.foldl stp x = (x.1, x.2 ++ l) := by
  induction l generalizing x with
  | nil => simp
  | cons c r ih =>
    rw [List.foldl_cons, ih _ (fun d hd => h d (by simp [hd]))]
    have : c ≠ 32 := h c (by simp)
    simp [stp, this]
theorem words_of_two {x y : List UInt8} (hx : ∀ c ∈ x, c ≠ 32) (hy : ∀ c ∈ y, c ≠ 32) : wordsL (x ++ 32 :: y) = [x, y] := by
  have h : wordsF (x ++ 32 :: y) = ([x], y) := by
    unfold wordsF
    rw [List.foldl_append, fold_plain x _ hx, List.foldl_cons, fold_plain y _ hy]
    simp [stp]
  unfold wordsL; rw [h]; rfl
theorem wordsL_len (l : List UInt8) : (wordsL l).length ≤ l.length + 1 := by
  have key : ∀ (l : List UInt8) (x : List (List UInt8) × List UInt8), (l.foldl stp x).1.length ≤ x.1.length + l.length := by
    intro l
    induction l with
    | nil => intro x; simp
    | cons c r ih =>
      intro x
      rw [List.foldl_cons]
      have := ih (stp x c)
      have h2 : (stp x c).1.length ≤ x.1.length + 1 := by unfold stp; split <;> simp
      simp; omega
  have := key l ([], [])
  unfold wordsL wordsF
  simp at this ⊢; omega
theorem dec_no_space (k : Nat) : ∀ c ∈ Lib.decDigits k, c ≠ 32 := by
  intro c hc he
  have := dec_digs k c hc
  subst he
  simp [isDig] at this

/-- Decimals are read as what they write. -/
theorem pu_snoc (l : List UInt8) (acc u : Nat) (c : UInt8) (h : Lib.parseUint10 acc l = .ok u) (hc : isDig c) (hu : u < 1000000000000000000) : Lib.parseUint10 acc (l ++ [c]) = .ok (u * 10 + (c.toNat - 48)) := by
  induction l generalizing acc with
  | nil =>
    simp only [Lib.parseUint10] at h
    injection h with h
    subst h
    unfold isDig at hc
    simp only [List.nil_append, Lib.parseUint10]
    rw [if_pos hc, if_neg (by omega), if_neg (by omega)]
  | cons d r ih =>
    simp only [List.cons_append, Lib.parseUint10] at h ⊢
    split at h
    · rename_i h1
      rw [if_pos h1]
      split at h
      · cases h
      · rename_i h2
        rw [if_neg h2]
        split at h
        · cases h
        · rename_i h3
          rw [if_neg h3]
          exact ih _ h
    · cases h
theorem pu_dec (k : Nat) (hk : k ≤ 1000000000000000000) : Lib.parseUint10 0 (Lib.decDigits k) = .ok k := by
  induction k using Nat.strongRecOn with
  | _ k ih =>
    have hd : isDig (dg k) := by unfold isDig; rw [dg_nat]; omega
    by_cases h : 9 < k
    · rw [dec_step h, pu_snoc _ _ _ _ (ih (k / 10) (by omega) (by omega)) hd (by omega), dg_nat]
      congr 1; omega
    · rw [dec_last (by omega), show [dg k] = [] ++ [dg k] from rfl, pu_snoc [] 0 0 _ rfl hd (by omega), dg_nat]
      congr 1; omega
theorem atoi_dec (k : Nat) (hk : k ≤ 1000000000000000000) : Lib.atoiAll (Lib.decDigits k) = .ok (k : Int) := by
  have h1 := pu_dec k hk
  have hd := dec_digs k
  have hp := dec_pos k
  match hl : Lib.decDigits k with
  | [] => rw [hl] at hp; simp at hp
  | c :: r =>
    rw [hl] at h1 hd
    have hc : isDig c := hd c (by simp)
    unfold isDig at hc
    have e1 : (if c.toNat = 43 ∨ c.toNat = 45 then r else c :: r) = c :: r := if_neg (by omega)
    have e2 : Lib.parseMag (c :: r) = .ok k := by unfold Lib.parseMag; rw [if_neg (by simp)]; exact h1
    simp only [Lib.atoiAll, e1, e2]
    rw [if_neg (by omega), if_neg (by omega), if_neg (by omega)]

/-- The text cut at its first space. -/
theorem index_none {l : List UInt8} (h : Lib.index l [32] < 0) : ∀ c ∈ l, c ≠ 32 := by
  induction l with
  | nil => simp
  | cons b r ih =>
    unfold Lib.index at h
    intro c hc
    split at h
    · omega
    · rename_i hb
      have hb' : b ≠ 32 := by
        intro e; subst e; simp at hb
      have hge := Lib.index_ge r [32]
      split at h
      · rename_i h2
        have h2' : Lib.index r [32] = -1 := by simpa using h2
        rcases List.mem_cons.1 hc with rfl | hc
        · exact hb'
        · exact ih (by omega) c hc
      · rename_i h2
        have h2' : Lib.index r [32] ≠ -1 := by simpa using h2
        omega
theorem cut_yes {l : List UInt8} (h : 0 ≤ Lib.index l [32]) : l = (Lib.cut l [32]).1 ++ 32 :: (Lib.cut l [32]).2.1 ∧ ∀ c ∈ (Lib.cut l [32]).1, c ≠ 32 := by
  unfold Lib.cut
  rw [if_pos h]
  simp only [List.length_singleton]
  induction l with
  | nil => simp [Lib.index] at h
  | cons b r ih =>
    by_cases hb : b = 32
    · subst hb
      have e : Lib.index (32 :: r) [32] = 0 := by simp [Lib.index]
      rw [e]; simp
    · have hp : List.isPrefixOf [(32 : UInt8)] (b :: r) = false := by
        show ((32 : UInt8) == b && List.isPrefixOf [] r) = false
        rw [show ((32 : UInt8) == b) = false by (simp; exact fun e => hb e.symm)]; rfl
      have hge := Lib.index_ge r [32]
      by_cases h2 : Lib.index r [32] = -1
      · have e : Lib.index (b :: r) [32] = -1 := by unfold Lib.index; rw [hp]; simp [h2]
        omega
      · have e : Lib.index (b :: r) [32] = Lib.index r [32] + 1 := by
          rw [Lib.index, hp]; simp [h2]
        rw [e]
        have h3 : 0 ≤ Lib.index r [32] := by omega
        obtain ⟨i1, i2⟩ := ih h3
        have e3 : (Lib.index r [32] + 1).toNat = (Lib.index r [32]).toNat + 1 := by omega
        rw [e3]
        refine ⟨?_, ?_⟩
        · rw [List.take_succ_cons, show (Lib.index r [32]).toNat + 1 + 1 = ((Lib.index r [32]).toNat + 1) + 1 from rfl, List.drop_succ_cons, List.cons_append, ← i1]
        · intro c hc
          rw [List.take_succ_cons] at hc
          rcases List.mem_cons.1 hc with rfl | hc
          · exact hb
          · exact i2 c hc
theorem cut_no {l : List UInt8} (h : ¬ 0 ≤ Lib.index l [32]) : Lib.cut l [32] = (l, [], false) := by unfold Lib.cut; rw [if_neg h]
theorem split_uniq {x y x' y' : List UInt8} (hx : ∀ c ∈ x, c ≠ 32) (hx' : ∀ c ∈ x', c ≠ 32) (h : x ++ 32 :: y = x' ++ 32 :: y') : x = x' ∧ y = y' := by
  induction x generalizing x' with
  | nil =>
    cases x' with
    | nil => simp at h; exact ⟨rfl, h⟩
    | cons a r => simp at h; exact absurd h.1.symm (hx' a (by simp))
  | cons a r ih =>
    cases x' with
    | nil => simp at h; exact absurd h.1 (hx a (by simp))
    | cons a' r' =>
      simp at h
      obtain ⟨e1, e2⟩ := ih (x' := r') (fun c hc => hx c (by simp [hc])) (fun c hc => hx' c (by simp [hc])) h.2
      exact ⟨by rw [h.1, e1], e2⟩

end Go.Proofs.YtgfkiljkpkfapaaGreatDoor
