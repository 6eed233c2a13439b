/- Plain facts on segments: which are ok, their sums, their bytes, and what bytes are read as. No program. No condition. -/
import Derived.Test.YtjnhmobdigfpiaaLines
import Derived.Test.YtjnhmobdigfpiaaBase
namespace Go.Proofs.Ytjnhmobdigfpiaa

/-- A byte that may stand in a segment. -/
def dataB (c : UInt8) : Bool := byteB c || decide (c = 59)
def segTxB (l : List UInt8) : Bool := decide (l.length ≤ 12) && l.all dataB
/-- A segment as data. -/
structure Sg where
  sa : Int
  sp : Int
  da : Int
  dp : Int
  seq : Int
  ack : Int
  data : List UInt8
deriving DecidableEq
def segOkB (s : Sg) : Bool := endB s.sa s.sp && endB s.da s.dp && inB s.seq 0 240 && inB s.ack 0 240 && segTxB s.data

theorem fold_data (l : List UInt8) : ∀ x : List (List UInt8) × List UInt8, ((l.foldl stl x).1.all (fun y => y.all byteB) && (l.foldl stl x).2.all byteB) = (x.1.all (fun y => y.all byteB) && x.2.all byteB && l.all dataB) := by
  induction l with
  | nil => intro x; simp
  | cons c r ih =>
    intro x
    rw [List.foldl_cons, ih]
    unfold stl
    by_cases h : c = 59
    · simp [h, dataB]
    · simp only [h, if_false, List.all_append, List.all_cons, List.all_nil, dataB, decide_false, Bool.or_false, Bool.and_true]
      cases (x.1.all fun y => y.all byteB) <;> cases (x.2.all byteB) <;> cases (byteB c) <;> simp
/-- A short text is a stream just if each of its bytes may stand in one. -/
theorem strB_data {l : List UInt8} (h : l.length ≤ 12) : strB l = l.all dataB := by
  have hf := fold_data l ([], [])
  have h1 : (linesL l).all linB = (linesL l).all (fun y => y.all byteB) := by
    rw [Bool.eq_iff_iff, List.all_eq_true, List.all_eq_true]
    constructor
    · intro hh x hx
      have := hh x hx
      unfold linB at this
      simp only [Bool.and_eq_true] at this
      exact this.2
    · intro hh x hx
      have h3 := line_len hx
      unfold linB
      rw [hh x hx, decide_eq_true (by omega)]; rfl
  have h2 : linB (restL l) = (restL l).all byteB := by
    have h3 := rest_le l
    unfold linB
    rw [decide_eq_true (by omega)]; simp
  unfold strB
  rw [h1, h2, decide_eq_true (by omega), Bool.true_and]
  unfold linesL restL linesF
  rw [hf]; simp
theorem segTx_str (l : List UInt8) : segTxB l = (decide (l.length ≤ 12) && strB l) := by
  unfold segTxB
  by_cases h : l.length ≤ 12
  · rw [strB_data h]
  · simp [h]

/-- The sum. -/
def sumStp (n : Nat) (c : UInt8) : Nat := (n * 257 + c.toNat) % 65521
def sumL (l : List UInt8) : Nat := l.foldl sumStp 1
theorem sumL_snoc (l : List UInt8) (c : UInt8) : sumL (l ++ [c]) = sumStp (sumL l) c := by simp [sumL]
theorem sumStp_lt (n : Nat) (c : UInt8) : sumStp n c < 65521 := Nat.mod_lt _ (by decide)
theorem sumF_lt (l : List UInt8) : ∀ n, n < 65521 → l.foldl sumStp n < 65521 := by
  induction l with
  | nil => intro n h; exact h
  | cons c r ih => intro n _; exact ih _ (sumStp_lt n c)
theorem sumL_lt (l : List UInt8) : sumL l < 65521 := sumF_lt l 1 (by decide)
theorem sumStp_inj {n m : Nat} {c : UInt8} (hn : n < 65521) (hm : m < 65521) (h : sumStp n c = sumStp m c) : n = m := by
  unfold sumStp at h; omega
theorem sumStp_ne {n : Nat} {c d : UInt8} (h : sumStp n c = sumStp n d) : c = d := by
  unfold sumStp at h
  have h1 := c.toNat_lt
  have h2 := d.toNat_lt
  exact UInt8.toNat_inj.1 (by omega)
theorem sumF_inj (l : List UInt8) : ∀ n m, n < 65521 → m < 65521 → l.foldl sumStp n = l.foldl sumStp m → n = m := by
  induction l with
  | nil => intro n m _ _ h; exact h
  | cons c r ih =>
    intro n m hn hm h
    exact sumStp_inj hn hm (ih _ _ (sumStp_lt _ _) (sumStp_lt _ _) h)
theorem sumF_set (l : List UInt8) : ∀ (n i : Nat) (c : UInt8) (hi : i < l.length), n < 65521 → (l.set i c).foldl sumStp n = l.foldl sumStp n → c = l[i] := by
  induction l with
  | nil => intro n i c hi; simp at hi
  | cons d r ih =>
    intro n i c hi hn h
    cases i with
    | zero =>
      simp only [List.set_cons_zero, List.foldl_cons] at h
      exact sumStp_ne (sumF_inj r _ _ (sumStp_lt _ _) (sumStp_lt _ _) h)
    | succ i =>
      simp only [List.set_cons_succ, List.foldl_cons] at h
      exact ih _ i c (by simpa using hi) (sumStp_lt _ _) h
/-- With one byte turned it is another one. -/
theorem sumL_set {l : List UInt8} {i : Nat} {c : UInt8} (hi : i < l.length) (h : c ≠ l[i]) : sumL (l.set i c) ≠ sumL l :=
  fun e => h (sumF_set l 1 i c hi (by decide) e)

/-- A number in two bytes; the number that two bytes are. -/
def wordL (n : Nat) : List UInt8 := [UInt8.ofNat (n / 256), UInt8.ofNat n]
def numAt (l : List UInt8) (i : Nat) : Nat := (l[i]?.getD 0).toNat * 256 + (l[i + 1]?.getD 0).toNat
theorem numAt_lt (l : List UInt8) (i : Nat) : numAt l i < 65536 := by
  unfold numAt
  have h1 := (l[i]?.getD 0).toNat_lt
  have h2 := (l[i + 1]?.getD 0).toNat_lt
  omega
theorem wordL_num {l : List UInt8} {i : Nat} (h : i + 2 ≤ l.length) : wordL (numAt l i) = (l.drop i).take 2 := by
  rw [List.drop_eq_getElem_cons (by omega), List.drop_eq_getElem_cons (i := i + 1) (by omega)]
  simp only [List.take_succ_cons, List.take_zero, wordL, numAt, List.getElem?_eq_getElem (show i < l.length by omega), List.getElem?_eq_getElem (show i + 1 < l.length by omega), Option.getD_some]
  have h1 := l[i].toNat_lt
  have h2 := l[i + 1].toNat_lt
  congr 1
  · apply UInt8.toNat_inj.1
    simp only [UInt8.toNat_ofNat']
    omega
  · congr 1
    apply UInt8.toNat_inj.1
    simp only [UInt8.toNat_ofNat']
    omega
theorem wordL_inj {n m : Nat} (hn : n < 65536) (hm : m < 65536) (h : wordL n = wordL m) : n = m := by
  unfold wordL at h
  simp only [List.cons.injEq, and_true] at h
  have h1 := congrArg UInt8.toNat h.1
  have h2 := congrArg UInt8.toNat h.2
  simp only [UInt8.toNat_ofNat'] at h1 h2
  omega

/-- A segment's bytes, but for its sum; all of them. -/
def headL (s : Sg) : List UInt8 := wordL s.sa.toNat ++ wordL s.sp.toNat ++ wordL s.da.toNat ++ wordL s.dp.toNat ++ wordL s.seq.toNat ++ wordL s.ack.toNat
def bodyL (s : Sg) : List UInt8 := headL s ++ [UInt8.ofNat s.data.length] ++ s.data
def segL (s : Sg) : List UInt8 := bodyL s ++ wordL (sumL (bodyL s))
def segBytesL (s : Sg) : List UInt8 := if segOkB s = true then segL s else []
theorem headL_len (s : Sg) : (headL s).length = 12 := rfl
theorem bodyL_len (s : Sg) : (bodyL s).length = 13 + s.data.length := by simp [bodyL, headL_len]; omega
theorem segL_len (s : Sg) : (segL s).length = 15 + s.data.length := by simp [segL, bodyL_len, wordL]; omega

/-- What bytes say, if they are as many. -/
def sayL (l : List UInt8) : Sg := ⟨numAt l 0, numAt l 2, numAt l 4, numAt l 6, numAt l 8, numAt l 10, (l.drop 13).take (l.length - 15)⟩
/-- The segment that bytes are. -/
def fitB (l : List UInt8) : Bool := decide (15 ≤ l.length) && decide (l.length ≤ 27) && decide ((l[12]?.getD 0).toNat = l.length - 15) && decide (numAt l (l.length - 2) = sumL (l.take (l.length - 2)))
def readL (l : List UInt8) : Option Sg := if fitB l = true ∧ segOkB (sayL l) = true then some (sayL l) else none

theorem segOk_bounds {s : Sg} (h : segOkB s = true) : (0 ≤ s.sa ∧ s.sa < 65536 ∧ 0 ≤ s.sp ∧ s.sp < 65536 ∧ 0 ≤ s.da ∧ s.da < 65536 ∧ 0 ≤ s.dp ∧ s.dp < 65536) ∧ (0 ≤ s.seq ∧ s.seq ≤ 240 ∧ 0 ≤ s.ack ∧ s.ack ≤ 240) ∧ s.data.length ≤ 12 := by
  unfold segOkB at h
  simp only [Bool.and_eq_true] at h
  obtain ⟨⟨⟨⟨h1, h2⟩, h3⟩, h4⟩, h5⟩ := h
  unfold endB insB outB boxB inB at h1 h2
  unfold inB at h3 h4
  unfold segTxB at h5
  simp only [Bool.or_eq_true, Bool.and_eq_true, decide_eq_true_eq] at h1 h2 h3 h4 h5
  omega
theorem head_at (a b c d e f : Nat) (r : List UInt8) (ha : a < 65536) (hb : b < 65536) (hc : c < 65536) (hd : d < 65536) (he : e < 65536) (hf : f < 65536) :
    numAt (wordL a ++ wordL b ++ wordL c ++ wordL d ++ wordL e ++ wordL f ++ r) 0 = a ∧ numAt (wordL a ++ wordL b ++ wordL c ++ wordL d ++ wordL e ++ wordL f ++ r) 2 = b ∧ numAt (wordL a ++ wordL b ++ wordL c ++ wordL d ++ wordL e ++ wordL f ++ r) 4 = c ∧
    numAt (wordL a ++ wordL b ++ wordL c ++ wordL d ++ wordL e ++ wordL f ++ r) 6 = d ∧ numAt (wordL a ++ wordL b ++ wordL c ++ wordL d ++ wordL e ++ wordL f ++ r) 8 = e ∧ numAt (wordL a ++ wordL b ++ wordL c ++ wordL d ++ wordL e ++ wordL f ++ r) 10 = f := by
  simp only [numAt, wordL, List.cons_append, List.nil_append, List.getElem?_cons_succ, List.getElem?_cons_zero, Option.getD_some, UInt8.toNat_ofNat', Nat.reduceAdd]
  omega
theorem numAt_end (l : List UInt8) (n : Nat) (h : n < 65536) : numAt (l ++ wordL n) l.length = n := by
  unfold numAt
  rw [List.getElem?_append_right (Nat.le_refl _), List.getElem?_append_right (by omega)]
  simp only [Nat.sub_self, Nat.add_sub_cancel_left, wordL, List.getElem?_cons_succ, List.getElem?_cons_zero, Option.getD_some, UInt8.toNat_ofNat']
  omega
/-- A segment's bytes are read as it. -/
theorem readL_seg {s : Sg} (h : segOkB s = true) : readL (segL s) = some s := by
  obtain ⟨⟨a1, a2, b1, b2, c1, c2, d1, d2⟩, ⟨e1, e2, f1, f2⟩, hd⟩ := segOk_bounds h
  have hl := segL_len s
  have hb := bodyL_len s
  have hh := head_at s.sa.toNat s.sp.toNat s.da.toNat s.dp.toNat s.seq.toNat s.ack.toNat ([UInt8.ofNat s.data.length] ++ s.data ++ wordL (sumL (bodyL s))) (by omega) (by omega) (by omega) (by omega) (by omega) (by omega)
  have e0 : segL s = wordL s.sa.toNat ++ wordL s.sp.toNat ++ wordL s.da.toNat ++ wordL s.dp.toNat ++ wordL s.seq.toNat ++ wordL s.ack.toNat ++ ([UInt8.ofNat s.data.length] ++ s.data ++ wordL (sumL (bodyL s))) := by
    unfold segL
    show headL s ++ [UInt8.ofNat s.data.length] ++ s.data ++ wordL (sumL (bodyL s)) = headL s ++ ([UInt8.ofNat s.data.length] ++ s.data ++ wordL (sumL (bodyL s)))
    simp
  rw [← e0] at hh
  obtain ⟨h0, h2, h4, h6, h8, h10⟩ := hh
  have hdata : ((segL s).drop 13).take ((segL s).length - 15) = s.data := by
    rw [hl, show 15 + s.data.length - 15 = s.data.length by omega]
    have : (segL s).drop 13 = s.data ++ wordL (sumL (bodyL s)) := by
      unfold segL bodyL
      rw [show headL s ++ [UInt8.ofNat s.data.length] ++ s.data ++ wordL (sumL (headL s ++ [UInt8.ofNat s.data.length] ++ s.data)) = (headL s ++ [UInt8.ofNat s.data.length]) ++ (s.data ++ wordL (sumL (headL s ++ [UInt8.ofNat s.data.length] ++ s.data))) by simp]
      rw [List.drop_left' (by simp [headL_len])]
    rw [this, List.take_left' rfl]
  have hsay : sayL (segL s) = s := by
    unfold sayL
    rw [h0, h2, h4, h6, h8, h10, hdata]
    cases s
    simp only [Sg.mk.injEq, and_true] at *
    omega
  have h12 : ((segL s)[12]?.getD 0).toNat = s.data.length := by
    unfold segL bodyL
    rw [List.append_assoc, List.append_assoc, List.getElem?_append_right (by rw [headL_len]; omega)]
    simp only [headL_len, Nat.sub_self, List.cons_append, List.nil_append, List.getElem?_cons_zero, Option.getD_some, UInt8.toNat_ofNat']
    omega
  have hsum : numAt (segL s) ((segL s).length - 2) = sumL ((segL s).take ((segL s).length - 2)) := by
    have h2 : (segL s).length - 2 = (bodyL s).length := by omega
    rw [h2]
    unfold segL
    rw [List.take_left' rfl]
    exact numAt_end _ _ (by have := sumL_lt (bodyL s); omega)
  have hfit : fitB (segL s) = true := by
    unfold fitB
    rw [hsum, h12, hl]
    simp
    omega
  unfold readL
  rw [if_pos ⟨hfit, by rw [hsay]; exact h⟩, hsay]
theorem drop_two {l : List UInt8} {i : Nat} (h : i + 2 ≤ l.length) : l.drop i = wordL (numAt l i) ++ l.drop (i + 2) := by
  rw [wordL_num h]
  have := (List.take_append_drop 2 (l.drop i)).symm
  rw [List.drop_drop] at this
  exact this
/-- What is read is a segment, and has these bytes. -/
theorem readL_some {l : List UInt8} {s : Sg} (h : readL l = some s) : segOkB s = true ∧ segL s = l := by
  unfold readL at h
  by_cases hc : fitB l = true ∧ segOkB (sayL l) = true
  · rw [if_pos hc] at h
    cases h
    refine ⟨hc.2, ?_⟩
    have hf := hc.1
    unfold fitB at hf
    simp only [Bool.and_eq_true, decide_eq_true_eq] at hf
    obtain ⟨⟨⟨h15, h27⟩, h12⟩, hs⟩ := hf
    have hdl : ((l.drop 13).take (l.length - 15)).length = l.length - 15 := by rw [List.length_take, List.length_drop]; omega
    have hbody : bodyL (sayL l) = l.take (l.length - 2) := by
      have h13 : l[12]? = some (UInt8.ofNat (l.length - 15)) := by
        rw [List.getElem?_eq_getElem (by omega)] at h12 ⊢
        simp only [Option.getD_some] at h12
        rw [← h12]; simp
      have e : l = wordL (numAt l 0) ++ wordL (numAt l 2) ++ wordL (numAt l 4) ++ wordL (numAt l 6) ++ wordL (numAt l 8) ++ wordL (numAt l 10) ++ [UInt8.ofNat (l.length - 15)] ++ l.drop 13 := by
        have d0 := drop_two (l := l) (i := 0) (by omega)
        have d1 := drop_two (l := l) (i := 2) (by omega)
        have d2 := drop_two (l := l) (i := 4) (by omega)
        have d3 := drop_two (l := l) (i := 6) (by omega)
        have d4 := drop_two (l := l) (i := 8) (by omega)
        have d5 := drop_two (l := l) (i := 10) (by omega)
        have d6 : l.drop 12 = UInt8.ofNat (l.length - 15) :: l.drop 13 := by
          rw [List.drop_eq_getElem_cons (i := 12) (by omega)]
          congr 1
          rw [List.getElem?_eq_getElem (by omega)] at h13
          exact Option.some.inj h13
        simp only [List.drop_zero, Nat.reduceAdd] at d0 d1 d2 d3 d4 d5
        conv => lhs; rw [d0, d1, d2, d3, d4, d5, d6]
        simp
      have hE : bodyL (sayL l) = wordL (numAt l 0) ++ wordL (numAt l 2) ++ wordL (numAt l 4) ++ wordL (numAt l 6) ++ wordL (numAt l 8) ++ wordL (numAt l 10) ++ [UInt8.ofNat (l.length - 15)] ++ (l.drop 13).take (l.length - 15) := by
        unfold bodyL headL sayL
        simp only [Int.toNat_natCast, hdl]
      rw [hE]
      conv => rhs; rw [show l.length - 2 = 13 + (l.length - 15) by omega]
      conv => rhs; arg 2; rw [e]
      rw [show ∀ n, 13 + n = (wordL (numAt l 0) ++ wordL (numAt l 2) ++ wordL (numAt l 4) ++ wordL (numAt l 6) ++ wordL (numAt l 8) ++ wordL (numAt l 10) ++ [UInt8.ofNat (l.length - 15)]).length + n from fun n => rfl]
      rw [List.take_length_add_append]
    unfold segL
    rw [hbody, ← hs, wordL_num (by omega), List.take_of_length_le (l := l.drop (l.length - 2)) (by rw [List.length_drop]; omega), List.take_append_drop]
  · rw [if_neg hc] at h; cases h
theorem readL_inj {l m : List UInt8} {s : Sg} (h : readL l = some s) (h2 : readL m = some s) : l = m := by
  rw [← (readL_some h).2, ← (readL_some h2).2]

end Go.Proofs.Ytjnhmobdigfpiaa
