/- Plain facts on cutting bytes into segments, and on what a segment adds to what is known. No program. No condition. (Several texts, joined: Segs, SegOk, TurnJ, STurnB, SNilS, GNear, GCopy, GConn, GBoxOk, GSame, SgMem, Cuts.) -/
import Derived.Test.YtgfkiljkpkfapaaGreatDoorTPla
import Derived.Test.YtgfkiljkpkfapaaGreatDoorBase
import Derived.Test.YtgfkiljkpkfapaaGreatDoorTPlb
import Derived.Test.YtgfkiljkpkfapaaGreatDoorTPld
import Derived.Test.YtgfkiljkpkfapaaGreatDoorTPlg
import Derived.Test.YtgfkiljkpkfapaaGreatDoorTPlf
import Derived.Deep.Upon
import Derived.Deep.AppendSrc
import Derived.Test.YtgfkiljkpkfapaaGreatDoorTPlc
import Derived.Test.YtgfkiljkpkfapaaGreatDoorFlat
import Derived.Deep.AppendLies

/- Plain facts on segments: which are ok, their sums, their bytes, and what bytes are read as. No program. No condition. -/
namespace Go.Proofs.YtgfkiljkpkfapaaGreatDoor

/-- A byte that may stand in a segment. -/
def dataB (c : UInt8) : Bool := byteB c || decide (c = 59)
def segTxB (l : List UInt8) : Bool := decide (l.length ≤ 12) && l.all dataB
/-- A segment as data. -/
structure Sg where
  sa : Int
  sp : Int
  da : Int
  dp : Int
  seq : Int
  ack : Int
  data : List UInt8
deriving DecidableEq
def segOkB (s : Sg) : Bool := endB s.sa s.sp && endB s.da s.dp && inB s.seq 0 240 && inB s.ack 0 240 && segTxB s.data

theorem fold_data (l : List UInt8) : ∀ x : List (List UInt8) × List UInt8, ((l.foldl stl x).1.all (fun y => y.all byteB) && (l.foldl stl x).2.all byteB) = (x.1.all (fun y => y.all byteB) && x.2.all byteB && l.all dataB) := by
  induction l with
  | nil => intro x; simp
  | cons c r ih =>
    intro x
    rw [List.foldl_cons, ih]
    unfold stl
    by_cases h : c = 59
    · simp [h, dataB]
    · simp only [h, if_false, List.all_append, List.all_cons, List.all_nil, dataB, decide_false, Bool.or_false, Bool.and_true]
      cases (x.1.all fun y => y.all byteB) <;> cases (x.2.all byteB) <;> cases (byteB c) <;> simp
/-- A short text is a stream just if each of its bytes may stand in one. -/
theorem strB_data {l : List UInt8} (h : l.length ≤ 12) : strB l = l.all dataB := by
  have hf := fold_data l ([], [])
  have h1 : (linesL l).all linB = (linesL l).all (fun y => y.all byteB) := by
    rw [Bool.eq_iff_iff, List.all_eq_true, List.all_eq_true]
    constructor
    · intro hh x hx
      have := hh x hx
      unfold linB at this
      simp only [Bool.and_eq_true] at this
      exact this.2
    · intro hh x hx
      have h3 := line_len hx
      unfold linB
      rw [hh x hx, decide_eq_true (by omega)]; rfl
  have h2 : linB (restL l) = (restL l).all byteB := by
    have h3 := rest_le l
    unfold linB
    rw [decide_eq_true (by omega)]; simp
  unfold strB
  rw [h1, h2, decide_eq_true (by omega), Bool.true_and]
  unfold linesL restL linesF
  rw [hf]; simp
theorem segTx_str (l : List UInt8) : segTxB l = (decide (l.length ≤ 12) && strB l) := by
  unfold segTxB
  by_cases h : l.length ≤ 12
  · rw [strB_data h]
  · simp [h]

/-- The sum. -/
def sumStp (n : Nat) (c : UInt8) : Nat := (n * 257 + c.toNat) % 65521
def sumL (l : List UInt8) : Nat := l.foldl sumStp 1
/-- A number in two bytes; the number that two bytes are. -/
def wordL (n : Nat) : List UInt8 := [UInt8.ofNat (n / 256), UInt8.ofNat n]
def numAt (l : List UInt8) (i : Nat) : Nat := (l[i]?.getD 0).toNat * 256 + (l[i + 1]?.getD 0).toNat
/-- A segment's bytes, but for its sum; all of them. -/
def headL (s : Sg) : List UInt8 := wordL s.sa.toNat ++ wordL s.sp.toNat ++ wordL s.da.toNat ++ wordL s.dp.toNat ++ wordL s.seq.toNat ++ wordL s.ack.toNat
def bodyL (s : Sg) : List UInt8 := headL s ++ [UInt8.ofNat s.data.length] ++ s.data
def segL (s : Sg) : List UInt8 := bodyL s ++ wordL (sumL (bodyL s))
def segBytesL (s : Sg) : List UInt8 := if segOkB s = true then segL s else []
/-- What bytes say, if they are as many. -/
def sayL (l : List UInt8) : Sg := ⟨numAt l 0, numAt l 2, numAt l 4, numAt l 6, numAt l 8, numAt l 10, (l.drop 13).take (l.length - 15)⟩
/-- The segment that bytes are. -/
def fitB (l : List UInt8) : Bool := decide (15 ≤ l.length) && decide (l.length ≤ 27) && decide ((l[12]?.getD 0).toNat = l.length - 15) && decide (numAt l (l.length - 2) = sumL (l.take (l.length - 2)))
def readL (l : List UInt8) : Option Sg := if fitB l = true ∧ segOkB (sayL l) = true then some (sayL l) else none

end Go.Proofs.YtgfkiljkpkfapaaGreatDoor

/- SegOk of the specification and of the program, at every segment. Condition: its bytes are at most 2^21. -/
namespace Go.Proofs.YtgfkiljkpkfapaaGreatDoor
open Go.RowKit

theorem segTx_no {l : List UInt8} {c : UInt8} (h : c ∈ l) (hc : dataB c = false) : segTxB l = false := by
  unfold segTxB
  rw [show l.all dataB = false from List.all_eq_false.2 ⟨c, h, by simp [hc]⟩]; simp

set_option maxRecDepth 100000 in
set_option maxHeartbeats 400000 in
theorem isPlace_any (n : Int) (w : World) :
    Calls Tryz.prog 77 #[.int .i64 n] w fun e w' => e = .returned (.bool (inB n 0 240)) ∧ w = w' := by
  go_enter Tryz.func77, Tryz.ntmps77
  go_wp2_with (go_at_call 58; refine (within_any _ _ _ _).mono ?_; rintro e w' ⟨rfl, rfl⟩)
  go_ret
  exact ⟨rfl, rfl⟩

set_option maxRecDepth 100000 in
set_option maxHeartbeats 400000 in
theorem isText_any (d : ByteArray) (w : World) (hd : d.size ≤ 2097152) :
    Calls Tryz.prog 78 #[.string d] w fun e w' => e = .returned (.bool (segTxB d.data.toList)) ∧ Below w.heap.size w w' := by
  have HT : Hid (segTxB d.data.toList = (decide (d.size ≤ 12) && strB d.data.toList)) := by rw [segTx_str, len_list]; rfl
  by_cases h : d.size ≤ 12
  · have ht2 : segTxB d.data.toList = strB d.data.toList := by have := HT.out; rw [decide_eq_true h] at this; simpa using this
    have HT2 := Lib.hid ht2
    clear ht2
    have HC : Hid (∀ w, Calls Tryz.prog 120 #[.string d] w fun e w' => e = .returned (.bool (segTxB d.data.toList)) ∧ Below w.heap.size w w') := fun w => by rw [HT2.out]; exact implStr_any d w hd
    obtain ⟨q, hq⟩ : ∃ q, q = segTxB d.data.toList := ⟨_, rfl⟩
    rw [← hq] at HC ⊢
    clear hq HT HT2
    cases q
    all_goals
      go_enter Tryz.func78, Tryz.ntmps78
      go_wp2_with (go_at_call 120; refine (HC.out _).mono ?_; rintro e w1 ⟨rfl, b1⟩)
      go_ret
      exact ⟨rfl, b1⟩
  · have ht2 : segTxB d.data.toList = false := by have := HT.out; rw [decide_eq_false h] at this; simpa using this
    have HT2 := Lib.hid ht2.symm
    clear HT ht2
    go_enter Tryz.func78, Tryz.ntmps78
    go_wp2_with fail
    go_ret
    exact ⟨ret_bool HT2.out, Below.refl _ _⟩

set_option maxRecDepth 100000 in
set_option maxHeartbeats 3200000 in
theorem implSegOk_any (sa sp da dp sq ak : Int) (d : ByteArray) (w : World) (hd : d.size ≤ 2097152) :
    Calls Tryz.prog 31 #[.agg #[.int .i64 sa, .int .i64 sp, .int .i64 da, .int .i64 dp, .int .i64 sq, .int .i64 ak, .string d]] w fun e w' => e = .returned (.bool (segOkB ⟨sa, sp, da, dp, sq, ak, d.data.toList⟩)) ∧ Below w.heap.size w w' := by
  have HS : Hid (segOkB ⟨sa, sp, da, dp, sq, ak, d.data.toList⟩ = (endB sa sp && endB da dp && inB sq 0 240 && inB ak 0 240 && segTxB d.data.toList)) := rfl
  have HT : Hid (∀ w, Calls Tryz.prog 78 #[.string d] w fun e w' => e = .returned (.bool (segTxB d.data.toList)) ∧ Below w.heap.size w w') := fun w => isText_any d w hd
  obtain ⟨q, hq⟩ : ∃ q, q = segOkB ⟨sa, sp, da, dp, sq, ak, d.data.toList⟩ := ⟨_, rfl⟩
  rw [← hq] at HS ⊢
  clear hq
  obtain ⟨e5, he5⟩ : ∃ e5, e5 = segTxB d.data.toList := ⟨_, rfl⟩
  rw [← he5] at HS HT
  clear he5 hd
  have HC : Hid (∀ n (w : World), Calls Tryz.prog 77 #[.int .i64 n] w fun e w' => e = .returned (.bool (inB n 0 240)) ∧ w = w') := fun n w => isPlace_any n w
  cases h1 : endB sa sp
  rotate_left
  cases h2 : endB da dp
  rotate_left
  cases h3 : inB sq 0 240
  rotate_left
  cases h4 : inB ak 0 240
  rotate_left
  cases e5
  all_goals
    try rw [h1] at HS
    try rw [h2] at HS
    try rw [h3] at HS
    try rw [h4] at HS
    first
    | (have hq : q = true := by (have := HS.out; simpa using this)
       subst hq)
    | (have hq : q = false := by (have := HS.out; simpa using this)
       subst hq)
    clear HS
    go_enter Tryz.func31, Tryz.ntmps31
    go_wp2_with fail
    (go_at_call 76; refine (implOk_any sa sp _).mono ?_; rintro e w1 ⟨rfl, b1⟩; obtain ⟨c1, f1⟩ := bcell b1; have s1 : w.heap.size < w1.heap.size := by (have := b1.size; simp at this; omega))
    go_wp2_with (first
      | (go_at_call 76; refine (implOk_any da dp _).mono ?_; rintro e w2 ⟨rfl, b2⟩; obtain ⟨c2, f2⟩ := bcell b2; have s2 : w.heap.size < w2.heap.size := by (have := b2.size; omega))
      | (go_at_call 77; refine (HC.out _ _).mono ?_; rintro e w' ⟨rfl, rfl⟩)
      | (go_at_call 78; refine (HT.out _).mono ?_; rintro e w3 ⟨rfl, b3⟩))
    go_ret
    first
      | exact ⟨rfl, (below_box b1).trans ((b2.mono (by omega)).trans (b3.mono (by omega)))⟩
      | exact ⟨rfl, (below_box b1).trans (b2.mono (by omega))⟩
      | exact ⟨rfl, below_box b1⟩

theorem dataB_ne {c : UInt8} (h : byteB c = false) : dataB c = decide (c = 59) := by unfold dataB; rw [h]; rfl
theorem dataB_yes {c : UInt8} (h : byteB c = true) : dataB c = true := by unfold dataB; rw [h]; rfl
theorem byte59 (c : UInt8) : ((c.toNat : Int) == 59) = decide (c = 59) := by
  rw [Bool.eq_iff_iff]
  simp
  constructor
  · intro h
    have e59 : (59 : UInt8).toNat = 59 := rfl
    exact UInt8.toNat_inj.1 (by omega)
  · rintro rfl; rfl

set_option maxRecDepth 100000 in
set_option maxHeartbeats 3200000 in
theorem specSegOk_any (sa sp da dp sq ak : Int) (d : ByteArray) (w : World) (hd : d.size ≤ 2097152) :
    Calls Tryz.prog 13 #[.agg #[.int .i64 sa, .int .i64 sp, .int .i64 da, .int .i64 dp, .int .i64 sq, .int .i64 ak, .string d]] w fun e w' => e = .returned (.bool (segOkB ⟨sa, sp, da, dp, sq, ak, d.data.toList⟩)) ∧ Below w.heap.size w w' := by
  have HS : Hid (segOkB ⟨sa, sp, da, dp, sq, ak, d.data.toList⟩ = (endB sa sp && endB da dp && inB sq 0 240 && inB ak 0 240 && segTxB d.data.toList)) := rfl
  obtain ⟨q, hq⟩ : ∃ q, q = segOkB ⟨sa, sp, da, dp, sq, ak, d.data.toList⟩ := ⟨_, rfl⟩
  rw [← hq] at HS ⊢
  clear hq
  have HL : Hid (¬ d.size ≤ 12 → segTxB d.data.toList = false) := by
    intro h
    unfold segTxB
    rw [len_list, decide_eq_false h]; rfl
  cases h1 : endB sa sp
  rotate_left
  cases h2 : endB da dp
  rotate_left
  cases h3 : inB sq 0 240
  rotate_left
  cases h4 : inB ak 0 240
  rotate_left
  by_cases h5 : d.size ≤ 12
  rotate_left
  all_goals
    try rw [h1] at HS
    try rw [h2] at HS
    try rw [h3] at HS
    try rw [h4] at HS
    go_enter Tryz.func13, Tryz.ntmps13
    go_wp2_with fail
    (go_at_call 48; refine (specOk_any sa sp _).mono ?_; rintro e w1 ⟨rfl, b1⟩; obtain ⟨c1, f1⟩ := bcell b1; have s1 : w.heap.size < w1.heap.size := by (have := b1.size; simp at this; omega))
    go_wp2_with (first
      | (go_at_call 48; refine (specOk_any da dp _).mono ?_; rintro e w2 ⟨rfl, b2⟩; obtain ⟨c2, f2⟩ := bcell b2; have s2 : w.heap.size < w2.heap.size := by (have := b2.size; omega))
      | (go_at_call 49; refine (specIn_any _ _ _ _).mono ?_; rintro e w' ⟨rfl, rfl⟩))
    try
      go_ret
      first
        | exact ⟨ret_bool (by have := HS.out; simpa using this.symm), (below_box b1).trans (b2.mono (by omega))⟩
        | exact ⟨ret_bool (by have := HS.out; rw [HL.out h5] at this; simpa using this.symm), (below_box b1).trans (b2.mono (by omega))⟩
        | exact ⟨ret_bool (by have := HS.out; simpa using this.symm), below_box b1⟩
  clear h1 h2 h3 h4
  have b12 : Below w.heap.size w w2 := (below_box b1).trans (b2.mono (by omega))
  have k6 : w2.cell? ⟨w.heap.size, 6, none⟩ = some (.string d) := by rw [c2 _ _ s1, c1 _ _ (by simp)]; simp [go_sem]
  have HB := Lib.hid b12
  clear c1 f1 c2 f2 b1 b2 b12 HL
  go_loop [3] (fun i => ∃ k : Nat, k ≤ d.size ∧ i = .int .i64 k ∧ (∀ c ∈ d.data.toList.take k, dataB c = true)) (fun i => d.size - (intOf i).toNat)
  case atStart => exact ⟨0, Nat.zero_le _, rfl, by simp⟩
  case round =>
    obtain ⟨k, hk, rfl, hd2⟩ := hrel
    have HD := Lib.hid hd2
    clear hd2
    by_cases hlt : k < d.size
    · have HT : Hid (d.data.toList.take (k + 1) = d.data.toList.take k ++ [d[k]]) := take_snoc d k hlt
      have HM : Hid (d[k] ∈ d.data.toList) := mem_at d k hlt
      cases hb : byteB d[k]
      · have HN := Lib.hid (dataB_ne hb)
        have hlt2 : (k : Int) < (d.size : Int) := by omega
        by_cases h59 : d[k] = 59
        · have HQ : Hid (dataB d[k] = true) := by rw [HN.out]; exact decide_eq_true h59
          have e1 : (((d[k]).toNat : Int) == 59) = true := by rw [h59]; rfl
          have e2 : (((d[k]).toNat : Int) != 59) = false := by rw [h59]; rfl
          clear h59 HN
          go_wp2_with (go_at_call 50; refine (specByte_any _ _).mono ?_; rintro e w' ⟨rfl, rfl⟩)
          go_round
          case rel =>
            refine ⟨k + 1, by omega, by go_num, ?_⟩
            rw [HT.out]; intro c hc
            rcases List.mem_append.1 hc with hc | hc
            · exact HD.out c hc
            · simp at hc; subst hc; exact HQ.out
          case measure => simp [intOf]; omega
        · have HQ : Hid (segTxB d.data.toList = false) := segTx_no HM.out (by rw [HN.out]; exact decide_eq_false h59)
          have e1 : (((d[k]).toNat : Int) == 59) = false := by rw [byte59]; exact decide_eq_false h59
          have e2 : (((d[k]).toNat : Int) != 59) = true := by unfold bne; rw [e1]; rfl
          clear h59 HN
          go_wp2_with (go_at_call 50; refine (specByte_any _ _).mono ?_; rintro e w' ⟨rfl, rfl⟩)
          go_ret
          exact ⟨ret_bool (by have := HS.out; rw [HQ.out] at this; simpa using this.symm), HB.out⟩
      · have HQ := Lib.hid (dataB_yes hb)
        have hlt2 : (k : Int) < (d.size : Int) := by omega
        go_wp2_with (go_at_call 50; refine (specByte_any _ _).mono ?_; rintro e w' ⟨rfl, rfl⟩)
        go_round
        case rel =>
          refine ⟨k + 1, by omega, by go_num, ?_⟩
          rw [HT.out]; intro c hc
          rcases List.mem_append.1 hc with hc | hc
          · exact HD.out c hc
          · simp at hc; subst hc; exact HQ.out
        case measure => simp [intOf]; omega
    · have HQ : Hid (segTxB d.data.toList = true) := by
        have he : d.data.toList.take k = d.data.toList := List.take_of_length_le (by rw [len_list]; omega)
        show (_ && _) = true
        rw [len_list, decide_eq_true h5, ← he, List.all_eq_true.2 HD.out]; rfl
      go_wp2_with fail
      go_ret
      exact ⟨ret_bool (by have := HS.out; rw [HQ.out] at this; simpa using this.symm), HB.out⟩

end Go.Proofs.YtgfkiljkpkfapaaGreatDoor

/- BoxTurn of the program at a box that is ok. Conditions: at most 2^20 rules, ends and streams each; all numbers are ints. -/
namespace Go.Proofs.YtgfkiljkpkfapaaGreatDoor
open Go.RowKit Go.Sort

/-- The box's variable takes another box. -/
theorem Q4.turn {w w' : World} {x0 x1 x2 : Value} {ls lr lq : List Value} (h : Q4 w [x0, x1, x2] ls lr lq w') (u0 u1 u2 : Value) : Q4 w [u0, u1, u2] ls lr lq (((w'.setCell ⟨w.heap.size, 0, none⟩ u0).setCell ⟨w.heap.size, 1, none⟩ u1).setCell ⟨w.heap.size, 2, none⟩ u2) := by
  obtain ⟨h0, h1, h2, h3, h4⟩ := h
  exact ⟨((h0.setCell (Nat.le_refl _) _).setCell (Nat.le_refl _) _).setCell (Nat.le_refl _) _, three_set h1 u0 u1 u2, ((h2.far (by simp) _).far (by simp) _).far (by simp) _, ((h3.far (by simp; omega) _).far (by simp; omega) _).far (by simp; omega) _, ((h4.far (by simp; omega) _).far (by simp; omega) _).far (by simp; omega) _⟩

end Go.Proofs.YtgfkiljkpkfapaaGreatDoor

/- BoxTurn of the specification at a box that is ok, and a segment that is not meant for it. Conditions: at most 2^20 rules, ends and streams each; at most 2^21 bytes. -/
namespace Go.Proofs.YtgfkiljkpkfapaaGreatDoor
open Go.RowKit Go.Sort

end Go.Proofs.YtgfkiljkpkfapaaGreatDoor

/- l3Put, l3Line and l3Stream of the specification at any table, nil too. Conditions: at most 2^22 ends; the text has at most 2^21 bytes. -/
namespace Go.Proofs.YtgfkiljkpkfapaaGreatDoor
open Go.RowKit Go.Sort

theorem tab_nil (w : World) : TabAt w (.slice none 0 0) [] := ⟨none, 0, rfl, ⟨Nat.le_refl _, fun _ => rfl⟩, fun h => absurd h (by simp)⟩
/-- append of a nil slice onto a slice of the call's own, at a step of a region that draws its order. -/
theorem step_append_nil {P : Program} (w : World) {ops : Array Oper} {o : Oper} {a : Act} {K : Act → World → Prop} {Q : Exit → Act → World → Prop} {E : Prop} (hgd : o.guard = none) (s x : Operand) (t : TypeId)
    (ho : o.op = .call { callee := .builtin .append, args := #[s, x], argTypes := #[t, t] })
    (base : Nat) (e : TypeId) (i : TypeInfo) (z : Value) (size bytes : Nat) (ht : P.underlying t = some (.slice e)) (hi : P.info? e = some i) (_ : i.zero = some z)
    (_ : i.size = size) (_ : i.bytes = bytes) (_ : z.cells.size = size) (_ : 0 < size)
    (v : Value) (n : Nat) (xs : List Value) (hs : a.eval s = v) (hown : w.ownsRow base e size v n xs) (hne : v ≠ .slice none 0 0)
    (c : Nat) (hx : a.eval x = .slice none 0 c)
    (h : ∀ g cap w', w'.ownsRow base e size (.slice (some ⟨g, 0, none⟩) (n + 0) cap) (n + 0) (xs ++ []) → w.grownBy w' v.ownBlock → base ≤ g → K (a.put o.dst (.slice (some ⟨g, 0, none⟩) (n + 0) cap)) w') :
    if Region.wanted o (yielded ops a.tmps) = true then Oper.wp P o a w K Q else E := by
  have hw : Region.wanted o (yielded ops a.tmps) = true := by simp [Region.wanted, hgd]
  rw [if_pos hw]
  obtain ⟨g, cap, rfl, hb, hc⟩ : ∃ g cap, v = .slice (some ⟨g, 0, none⟩) n cap ∧ base ≤ g ∧ n ≤ cap := by
    rcases hown.2 with ⟨rfl, _⟩ | ⟨g, cap, cur, hv, hB, hg, r⟩
    · exact absurd rfl hne
    · exact ⟨g, cap, hv, hB, r.1⟩
  have hr := run_append_nothing (P := P) w t t o.type e i ht hi (some ⟨g, 0, none⟩) n cap hc (.slice none 0 c) (Src.ofNil w ht c)
  unfold Oper.wp execOp
  simp only [ho, resolve, invoke, builtin, Sem.run_bind, Sem.run_pure, Result.andThen_ok, List.map_toArray, List.map_cons, List.map_nil, hs, hx, hr]
  exact h g cap w (by simpa using hown) (World.grownBy.refl _ _) hb

set_option maxRecDepth 100000 in
set_option maxHeartbeats 3200000 in
/-- l3Put of a table that is nil. -/
theorem specPut_nil (a p : Int) (w : World) :
    Calls Tryz.prog 39 #[.agg #[.slice none 0 0], .agg #[.int .i64 a, .int .i64 p]] w fun e w' => ∃ g c, e = .returned (.tuple #[.agg #[.slice (some g) 1 c], .int .i64 (500)]) ∧ OwnTab w' w.heap.size (.slice (some g) 1 c) ([(a, p)]) ∧ Below w.heap.size w w' := by
  have HP : Hid (∀ w, TabAt w (.slice none 0 0) [] → Calls Tryz.prog 82 #[.agg #[.slice none 0 0], .agg #[.int .i64 a, .int .i64 p]] w fun e w' => e = .returned (.int .i64 0) ∧ Below w.heap.size w w') := fun w h => specPort_any _ [] a p w (by simp) h
  obtain ⟨i0, hi, hz0, hz1, hz2⟩ := info_parts infoEnd
  go_enter Tryz.func39, Tryz.ntmps39
  go_upto_region 6 with (go_at_call 82; refine (HP.out _ (tab_nil _)).mono ?_; rintro e w1 ⟨rfl, b1⟩; obtain ⟨cA, cB, cC, b01, z1⟩ := cell_three b1; have a0 := (cA 0).1; have s0 := (cA 0).2; have e0 := (cB 0).1; have e1 := (cB 1).1; have r0 := (cC 0).1; have g0 := (cC 0).2; simp at a0 e0 e1 r0)
  have own0 : Hid (∀ wx : World, w1.heap.size ≤ wx.heap.size → (wx.alloc (.cells #[] 31)).ownsRow w1.heap.size 31 2 (.slice (some ⟨wx.heap.size, 0, none⟩) 0 0) 0 []) :=
    fun wx h => World.ownsRow_made wx #[] 0 h (Nat.zero_le _) rfl
  have B0 : Hid (Below w.heap.size w w1) := b01
  clear b1 cA cB cC b01
  have a0x : ∀ o, (w1.alloc o).cell? ⟨w.heap.size, 0, none⟩ = some (.slice none 0 0) := fun o => by rw [cell_alloc_lt (by omega)]; exact a0
  have a0y : ∀ o o', ((w1.alloc o).alloc o').cell? ⟨w.heap.size, 0, none⟩ = some (.slice none 0 0) := fun o o' => by rw [cell_alloc_lt (by simp <;> omega), cell_alloc_lt (by omega)]; exact a0
  have e0x : ∀ o, (w1.alloc o).cell? ⟨w.heap.size + 1, 0, none⟩ = some (.int .i64 a) := fun o => by rw [cell_alloc_lt (by omega)]; exact e0
  have e0y : ∀ o o', ((w1.alloc o).alloc o').cell? ⟨w.heap.size + 1, 0, none⟩ = some (.int .i64 a) := fun o o' => by rw [cell_alloc_lt (by simp <;> omega), cell_alloc_lt (by omega)]; exact e0
  have e1x : ∀ o, (w1.alloc o).cell? ⟨w.heap.size + 1, 1, none⟩ = some (.int .i64 p) := fun o => by rw [cell_alloc_lt (by omega)]; exact e1
  have e1y : ∀ o o', ((w1.alloc o).alloc o').cell? ⟨w.heap.size + 1, 1, none⟩ = some (.int .i64 p) := fun o o' => by rw [cell_alloc_lt (by simp <;> omega), cell_alloc_lt (by omega)]; exact e1
  have own1 : Hid (((w1.alloc (.cells #[] 31)).drew).ownsRow w1.heap.size 31 2 (.slice (some ⟨w1.heap.size, 0, none⟩) 0 0) 0 []) := (own0.out w1 (Nat.le_refl _)).drew
  have own2 : Hid (∀ o, (((w1.alloc (.cells #[] 31)).alloc o).drew).ownsRow w1.heap.size 31 2 (.slice (some ⟨w1.heap.size, 0, none⟩) 0 0) 0 []) := fun o => ((own0.out w1 (Nat.le_refl _)).alloc o).drew
  have own3 : Hid (∀ o, (((w1.alloc o).alloc (.cells #[] 31)).drew).ownsRow w1.heap.size 31 2 (.slice (some ⟨w1.heap.size + 1, 0, none⟩) 0 0) 0 []) := fun o => by have := (own0.out (w1.alloc o) (by simp)).drew; simpa using this
  have bl1 : Hid (∀ o, Below w1.heap.size w1 ((w1.alloc o).drew)) := fun o => ((Below.refl _ _).alloc (Nat.le_refl _) _).drew
  have bl2 : Hid (∀ o o', Below w1.heap.size w1 (((w1.alloc o).alloc o').drew)) := fun o o' => ((((Below.refl _ _).alloc (Nat.le_refl _) _).alloc (by simp) _)).drew
  go_cut [] (fun wx => ∃ g c : Nat, wx.cell? ⟨w.heap.size, 0, none⟩ = some (.slice (some ⟨g, 0, none⟩) 1 c) ∧ wx.cell? ⟨w.heap.size + 1 + 1, 0, none⟩ = some (.slice none 0 0) ∧ wx.frozen? ⟨w.heap.size + 1 + 1, 0, none⟩ = false ∧ wx.ownsRow w1.heap.size 31 2 (.slice (some ⟨g, 0, none⟩) 1 c) 1 (flatE ([(a, p)])) ∧ Below w.heap.size w wx)
  case first =>
    go_region_law (first
      | ((refine step_append_nil _ rfl (.tmp 19) (.tmp 21) 24 rfl w1.heap.size 31 i0 (.agg #[.int .i64 0, .int .i64 0]) 2 16 Tryz.underlying24 hi hz0 hz1 hz2 rfl (by decide) (.slice (some ⟨w1.heap.size, 0, none⟩) 0 0) 0 [] (by rfl) (by first | exact own1.out | exact own2.out _ | exact own3.out _) (by simp) 0 (by rfl) ?_)
         intro g1 c1 w2 hown1 hgrow1 hg1
         have hb2 : Below w1.heap.size w1 w2 := by first | exact (bl1.out _).grown hgrow1 (by simp) (fun k hk => by simp [Value.ownBlock] at hk; omega) | exact (bl2.out _ _).grown hgrow1 (by simp <;> omega) (fun k hk => by simp [Value.ownBlock] at hk; omega)
         try (have n5 : ∀ (j : Nat) (u : Value), [Value.int .i64 a, .int .i64 p][j]? = some u → w2.cell? ((⟨w1.heap.size + 1, 0, none⟩ : Addr).add j) = some u := World.news_of_block (cs := #[.int .i64 a, .int .i64 p]) (t := 31) (by rw [hgrow1.block (w1.heap.size + 1) (by simp) (by simp [Value.ownBlock])]; exact heap_lastd _ (by simp)))
         try (have n5 : ∀ (j : Nat) (u : Value), [Value.int .i64 a, .int .i64 p][j]? = some u → w2.cell? ((⟨w1.heap.size, 0, none⟩ : Addr).add j) = some u := World.news_of_block (cs := #[.int .i64 a, .int .i64 p]) (t := 31) (by rw [hgrow1.block w1.heap.size (by simp <;> omega) (by simp [Value.ownBlock])]; exact heap_last2d _ _))
         simp only [Nat.zero_add, List.nil_append] at hown1 ⊢
         have hs2 : w1.heap.size ≤ w2.heap.size := hb2.size
         have a0z : w2.cell? ⟨w.heap.size, 0, none⟩ = some (.slice none 0 0) := by rw [hb2.cell (by simp <;> omega)]; exact a0
         have e0z : w2.cell? ⟨w.heap.size + 1, 0, none⟩ = some (.int .i64 a) := by rw [hb2.cell (by simp <;> omega)]; exact e0
         have e1z : w2.cell? ⟨w.heap.size + 1, 1, none⟩ = some (.int .i64 p) := by rw [hb2.cell (by simp <;> omega)]; exact e1)
      | ((refine step_append_nil _ rfl (.tmp 19) (.tmp 21) 24 rfl w1.heap.size 31 i0 (.agg #[.int .i64 0, .int .i64 0]) 2 16 Tryz.underlying24 hi hz0 hz1 hz2 rfl (by decide) (.slice (some ⟨w1.heap.size + 1, 0, none⟩) 0 0) 0 [] (by rfl) (by first | exact own1.out | exact own2.out _ | exact own3.out _) (by simp) 0 (by rfl) ?_)
         intro g1 c1 w2 hown1 hgrow1 hg1
         have hb2 : Below w1.heap.size w1 w2 := by first | exact (bl1.out _).grown hgrow1 (by simp) (fun k hk => by simp [Value.ownBlock] at hk; omega) | exact (bl2.out _ _).grown hgrow1 (by simp <;> omega) (fun k hk => by simp [Value.ownBlock] at hk; omega)
         try (have n5 : ∀ (j : Nat) (u : Value), [Value.int .i64 a, .int .i64 p][j]? = some u → w2.cell? ((⟨w1.heap.size + 1, 0, none⟩ : Addr).add j) = some u := World.news_of_block (cs := #[.int .i64 a, .int .i64 p]) (t := 31) (by rw [hgrow1.block (w1.heap.size + 1) (by simp) (by simp [Value.ownBlock])]; exact heap_lastd _ (by simp)))
         try (have n5 : ∀ (j : Nat) (u : Value), [Value.int .i64 a, .int .i64 p][j]? = some u → w2.cell? ((⟨w1.heap.size, 0, none⟩ : Addr).add j) = some u := World.news_of_block (cs := #[.int .i64 a, .int .i64 p]) (t := 31) (by rw [hgrow1.block w1.heap.size (by simp <;> omega) (by simp [Value.ownBlock])]; exact heap_last2d _ _))
         simp only [Nat.zero_add, List.nil_append] at hown1 ⊢
         have hs2 : w1.heap.size ≤ w2.heap.size := hb2.size
         have a0z : w2.cell? ⟨w.heap.size, 0, none⟩ = some (.slice none 0 0) := by rw [hb2.cell (by simp <;> omega)]; exact a0
         have e0z : w2.cell? ⟨w.heap.size + 1, 0, none⟩ = some (.int .i64 a) := by rw [hb2.cell (by simp <;> omega)]; exact e0
         have e1z : w2.cell? ⟨w.heap.size + 1, 1, none⟩ = some (.int .i64 p) := by rw [hb2.cell (by simp <;> omega)]; exact e1)
      | ((refine step_append_some _ rfl (.tmp 22) (.tmp 24) 24 rfl w1.heap.size 31 i0 (.agg #[.int .i64 0, .int .i64 0]) 2 16 Tryz.underlying24 hi hz0 hz1 hz2 rfl (by decide) (.slice (some ⟨g1, 0, none⟩) 0 c1) 0 [] (by rfl) (by first | exact hown1 | exact hown1.alloc _) (by simp) _ 1 1 [.int .i64 a, .int .i64 p] (by rfl) rfl (by first | exact n5 | exact World.news_of_block (cs := #[.int .i64 a, .int .i64 p]) (t := 31) (heap_last w2 _)) (by intro u hu; simp at hu; rcases hu with rfl | rfl <;> rfl) (by unfold maxLen; omega) (by omega) (by first | exact hs2 | (simp; omega)) ?_)
         intro g2 c2 w3 hown2 hgrow2 hg2
         have hb3 : Below w1.heap.size w1 w3 := by first | exact hb2.grown hgrow2 hs2 (fun k hk => by simp [Value.ownBlock] at hk; omega) | exact (hb2.alloc hs2 _).grown hgrow2 (by simp <;> omega) (fun k hk => by simp [Value.ownBlock] at hk; omega)
         have a0v : w3.cell? ⟨w.heap.size, 0, none⟩ = some (.slice none 0 0) := by rw [hb3.cell (by simp <;> omega)]; exact a0
         have s0v : w3.frozen? ⟨w.heap.size, 0, none⟩ = false := by rw [hb3.frozen (by simp <;> omega)]; exact s0))
    all_goals
      go_wp2_with fail
      go_meet
      refine ⟨g2, c2, World.cell?_setCell_same _ _ _ a0v, ?_, ?_, ?_, ?_⟩
      · rw [World.cell?_setCell_far w3 ⟨w.heap.size, 0, none⟩ ⟨w.heap.size + 1 + 1, 0, none⟩ _ (by show w.heap.size ≠ w.heap.size + 1 + 1; omega), hb3.cell (by simp; omega)]; exact r0
      · rw [World.frozen?_setCell, hb3.frozen (by simp; omega)]; exact g0
      · exact ownsRow_setCell_below (a := ⟨w.heap.size, 0, none⟩) hown2 (by simp; omega) _
      · exact (B0.out.trans (hb3.mono (by omega))).setCell (by simp) _
  case rest =>
    obtain ⟨g, c, k0, k1, k2, kown, kb⟩ := hcut
    have KO := Lib.hid kown
    have KB := Lib.hid kb
    clear kown kb own1 own2 own3 bl1 bl2 own0 HP
    go_upto_region 7 with fail
    go_region
    all_goals go_wp2_with fail
    all_goals
      refine bodyPost_ret (v := .tuple #[.agg #[.slice (some ⟨g, 0, none⟩) 1 c], .int .i64 (500 + 1 - 1)]) (by simp [results, Tryz.results39, go_sem, World.cell?_setCell_same _ _ _ k1]) rfl ⟨_, _, rfl, ?_, ?_⟩
      · have := (ownsRow_setCell_below (a := ⟨w.heap.size + 1 + 1, 0, none⟩) KO.out (by simp; omega) (.slice (some ⟨g, 0, none⟩) 1 c)).drew
        exact OwnTab.mono (B := w1.heap.size) (by simpa [OwnTab] using this) (by omega)
      · exact (KB.out.setCell (by simp; omega) _).drew

/-- l3Put of any table. -/
theorem specPut_anyG (ad : Option Addr) (cap : Nat) (es : List (Int × Int)) (a p : Int) (w : World) (hn : es.length ≤ 4194304) (ht : TabAt w (.slice ad es.length cap) es) :
    Calls Tryz.prog 39 #[.agg #[.slice ad es.length cap], .agg #[.int .i64 a, .int .i64 p]] w fun e w' => ∃ g c, e = .returned (.tuple #[.agg #[.slice g (putE es (a, p)).1.length c], .int .i64 (putE es (a, p)).2]) ∧ ((g = ad ∧ c = cap ∧ (putE es (a, p)).1 = es) ∨ OwnTab w' w.heap.size (.slice g (putE es (a, p)).1.length c) (putE es (a, p)).1) ∧ Below w.heap.size w w' := by
  rcases ad with _ | ad
  · obtain ⟨a', cap', e, hc, hr⟩ := ht
    simp at e
    obtain ⟨rfl, rfl⟩ := e
    have h0 : es = [] := by
      refine List.eq_nil_of_length_eq_zero ?_
      refine Classical.byContradiction fun hh => ?_
      obtain ⟨g, hg, _⟩ := hr (by omega)
      cases hg
    subst h0
    have hcap : cap = 0 := hc.2 rfl
    subst hcap
    refine (specPut_nil a p w).mono ?_
    rintro e w' ⟨g, c, rfl, ho, hb⟩
    exact ⟨some g, c, rfl, .inr ho, hb⟩
  · refine (specPut_new_or ad cap es a p w hn ht).mono ?_
    rintro e w' ⟨g, c, rfl, ho, hb⟩
    exact ⟨some g, c, rfl, ho.imp (fun h => ⟨by rw [h.1], h.2⟩) id, hb⟩

set_option maxRecDepth 100000 in
set_option maxHeartbeats 1600000 in
theorem specLine_anyG (B : Nat) (ad : Option Addr) (cap : Nat) (es : List (Int × Int)) (s : ByteArray) (w : World) (hn : es.length ≤ 4194304) (hs : s.size ≤ 2097152) (hB : B ≤ w.heap.size) (ho : OwnTab w B (.slice ad es.length cap) es) :
    Calls Tryz.prog 132 #[.agg #[.slice ad es.length cap], .string s] w fun e w' => ∃ g c, e = .returned (.tuple #[.agg #[.slice g (lineE es s.data.toList).1.length c], .string ⟨(lineE es s.data.toList).2.toArray⟩]) ∧ OwnTab w' B (.slice g (lineE es s.data.toList).1.length c) (lineE es s.data.toList).1 ∧ Below w.heap.size w w' := by
  have HO := Lib.hid ho
  clear ho
  rcases hb : saysE s.data.toList with _ | ⟨a, p⟩
  · have HB : Hid (∀ w, Calls Tryz.prog 147 #[.string s] w fun e w' => e = .returned (.tuple #[.agg #[.int .i64 0, .int .i64 0], .bool false]) ∧ Below w.heap.size w w') := fun w => by have := specSays_any s w hs; rw [hb] at this; exact this
    have HE : Hid (lineE es s.data.toList = (es, s.data.toList)) := by show lineE _ _ = _; unfold lineE; rw [hb]
    clear hb
    rw [HE.out, str_same]
    go_enter Tryz.func132, Tryz.ntmps132
    go_wp2_with fail
    (go_at_call 147; refine (HB.out _).mono ?_; rintro e w1 ⟨rfl, b1⟩; obtain ⟨cA, cB, b01, z1⟩ := cell_two b1; have t0 := (cA 0).1; have r0 := (cB 0).1; have g0 := (cB 0).2; simp at t0 r0; have B1 := Lib.hid b01; clear cA cB b1 b01)
    have t1 : (w1.alloc (.cells #[.int .i64 0, .int .i64 0] 31)).cell? ⟨w.heap.size, 0, none⟩ = some (.slice ad es.length cap) := (by rw [cell_alloc_lt (by omega)]; exact t0)
    have r1 : (w1.alloc (.cells #[.int .i64 0, .int .i64 0] 31)).cell? ⟨w.heap.size + 1, 0, none⟩ = some (.slice none 0 0) := (by rw [cell_alloc_lt (by omega)]; exact r0)
    have g1 : (w1.alloc (.cells #[.int .i64 0, .int .i64 0] 31)).frozen? ⟨w.heap.size + 1, 0, none⟩ = false := (by rw [frozen_alloc_lt (by omega)]; exact g0)
    go_wp2_with fail
    refine bodyPost_ret (v := .tuple #[.agg #[.slice ad es.length cap], .string s]) (by simp [results, Tryz.results132, go_sem, World.cell?_setCell_same _ _ _ r1]) rfl ?_
    exact ⟨_, _, rfl, HO.out.below ((B1.out.alloc B1.out.size _).setCell (by simp) _), (B1.out.alloc B1.out.size _).setCell (by simp) _⟩
  · obtain ⟨us, hus⟩ : ∃ us, us = (putE es (a, p)).1 := ⟨_, rfl⟩
    obtain ⟨q, hq⟩ : ∃ q, q = (putE es (a, p)).2 := ⟨_, rfl⟩
    have hP : Hid (∀ (w : World), TabAt w (.slice ad es.length cap) es → Calls Tryz.prog 39 #[.agg #[.slice ad es.length cap], .agg #[.int .i64 a, .int .i64 p]] w fun e w' => ∃ g c, e = .returned (.tuple #[.agg #[.slice g us.length c], .int .i64 q]) ∧ ((g = ad ∧ c = cap ∧ us = es) ∨ OwnTab w' w.heap.size (.slice g us.length c) us) ∧ Below w.heap.size w w') := fun w h => by rw [hus, hq]; exact specPut_anyG ad cap es a p w hn h
    have HB : Hid (∀ w, Calls Tryz.prog 147 #[.string s] w fun e w' => e = .returned (.tuple #[.agg #[.int .i64 a, .int .i64 p], .bool true]) ∧ Below w.heap.size w w') := fun w => by have := specSays_any s w hs; rw [hb] at this; exact this
    by_cases h0 : q = 0
    · have HE : Hid (lineE es s.data.toList = (us, noneL)) := by show lineE _ _ = _; unfold lineE; rw [hb]; simp only; rw [← hq, if_pos h0, hus]
      clear hb hus hq
      subst h0
      rw [HE.out]
      go_enter Tryz.func132, Tryz.ntmps132
      go_wp2_with fail
      (go_at_call 147; refine (HB.out _).mono ?_; rintro e w1 ⟨rfl, b1⟩; obtain ⟨cA, cB, b01, z1⟩ := cell_two b1; have t0 := (cA 0).1; have r0 := (cB 0).1; have g0 := (cB 0).2; simp at t0 r0; have B1 := Lib.hid b01; clear cA cB b1 b01)
      have t1 : (w1.alloc (.cells #[.int .i64 a, .int .i64 p] 31)).cell? ⟨w.heap.size, 0, none⟩ = some (.slice ad es.length cap) := (by rw [cell_alloc_lt (by omega)]; exact t0)
      have r1 : (w1.alloc (.cells #[.int .i64 a, .int .i64 p] 31)).cell? ⟨w.heap.size + 1, 0, none⟩ = some (.slice none 0 0) := (by rw [cell_alloc_lt (by omega)]; exact r0)
      have g1 : (w1.alloc (.cells #[.int .i64 a, .int .i64 p] 31)).frozen? ⟨w.heap.size + 1, 0, none⟩ = false := (by rw [frozen_alloc_lt (by omega)]; exact g0)
      go_wp2_with fail
      (go_at_call 39; refine (hP.out _ (HO.out.tab.below (B1.out.alloc B1.out.size _))).mono ?_; rintro e w2 ⟨g2, c2, rfl, o2, b2⟩; have O2 := Lib.hid o2; have B2 := Lib.hid b2; clear o2 b2)
      have r2 : w2.cell? ⟨w.heap.size + 1, 0, none⟩ = some (.slice none 0 0) := (by rw [B2.out.cell (by simp; omega)]; exact r1)
      have g02 : w2.frozen? ⟨w.heap.size + 1, 0, none⟩ = false := (by rw [B2.out.frozen (by simp; omega)]; exact g1)
      have z2 := B2.out.size
      have z2 : w1.heap.size + 1 ≤ w2.heap.size := by simpa using z2
      have r3 : (w2.alloc (.cells #[.slice g2 us.length c2] 26)).cell? ⟨w.heap.size + 1, 0, none⟩ = some (.slice none 0 0) := (by rw [cell_alloc_lt (by show _ < _; omega)]; exact r2)
      have g03 : (w2.alloc (.cells #[.slice g2 us.length c2] 26)).frozen? ⟨w.heap.size + 1, 0, none⟩ = false := (by rw [frozen_alloc_lt (by show _ < _; omega)]; exact g02)
      go_wp2_with fail
      refine bodyPost_ret (v := .tuple #[.agg #[.slice g2 us.length c2], .string ⟨noneL.toArray⟩]) (by simp [results, Tryz.results132, go_sem, World.cell?_setCell_same _ _ _ r3, noneL]) rfl ?_
      have BF : Below w.heap.size w ((w2.alloc (.cells #[.slice g2 us.length c2] 26)).setCell ⟨w.heap.size + 1, 0, none⟩ (.slice g2 us.length c2)) := (((B1.out.alloc B1.out.size _).trans (B2.out.mono (by simp; omega))).alloc (by omega) _).setCell (by simp) _
      refine ⟨_, _, rfl, ?_, BF⟩
      rcases O2.out with ⟨rfl, rfl, rfl⟩ | o2
      · exact HO.out.below BF
      · exact OwnTab.mono (B := w1.heap.size) (ownsRow_setCell_below (OwnTab.below (OwnTab.mono o2 (by simp)) ((Below.refl _ _).alloc (Nat.le_refl _) _)) (by simp; omega) _) (by omega)
    · have HE : Hid (lineE es s.data.toList = (us, lpL 50 q)) := by show lineE _ _ = _; unfold lineE; rw [hb]; simp only; rw [← hq, if_neg h0, hus]
      clear hb hus hq
      rw [HE.out]
      go_enter Tryz.func132, Tryz.ntmps132
      go_wp2_with fail
      (go_at_call 147; refine (HB.out _).mono ?_; rintro e w1 ⟨rfl, b1⟩; obtain ⟨cA, cB, b01, z1⟩ := cell_two b1; have t0 := (cA 0).1; have r0 := (cB 0).1; have g0 := (cB 0).2; simp at t0 r0; have B1 := Lib.hid b01; clear cA cB b1 b01)
      have t1 : (w1.alloc (.cells #[.int .i64 a, .int .i64 p] 31)).cell? ⟨w.heap.size, 0, none⟩ = some (.slice ad es.length cap) := (by rw [cell_alloc_lt (by omega)]; exact t0)
      have r1 : (w1.alloc (.cells #[.int .i64 a, .int .i64 p] 31)).cell? ⟨w.heap.size + 1, 0, none⟩ = some (.slice none 0 0) := (by rw [cell_alloc_lt (by omega)]; exact r0)
      have g1 : (w1.alloc (.cells #[.int .i64 a, .int .i64 p] 31)).frozen? ⟨w.heap.size + 1, 0, none⟩ = false := (by rw [frozen_alloc_lt (by omega)]; exact g0)
      go_wp2_with fail
      (go_at_call 39; refine (hP.out _ (HO.out.tab.below (B1.out.alloc B1.out.size _))).mono ?_; rintro e w2 ⟨g2, c2, rfl, o2, b2⟩; have O2 := Lib.hid o2; have B2 := Lib.hid b2; clear o2 b2)
      have r2 : w2.cell? ⟨w.heap.size + 1, 0, none⟩ = some (.slice none 0 0) := (by rw [B2.out.cell (by simp; omega)]; exact r1)
      have g02 : w2.frozen? ⟨w.heap.size + 1, 0, none⟩ = false := (by rw [B2.out.frozen (by simp; omega)]; exact g1)
      have z2 := B2.out.size
      have z2 : w1.heap.size + 1 ≤ w2.heap.size := by simpa using z2
      have r3 : (w2.alloc (.cells #[.slice g2 us.length c2] 26)).cell? ⟨w.heap.size + 1, 0, none⟩ = some (.slice none 0 0) := (by rw [cell_alloc_lt (by show _ < _; omega)]; exact r2)
      have g03 : (w2.alloc (.cells #[.slice g2 us.length c2] 26)).frozen? ⟨w.heap.size + 1, 0, none⟩ = false := (by rw [frozen_alloc_lt (by show _ < _; omega)]; exact g02)
      go_wp2_with fail
      have BF : Hid (Below w.heap.size w (w2.alloc (.cells #[.slice g2 us.length c2] 26))) := (((B1.out.alloc B1.out.size _).trans (B2.out.mono (by simp; omega))).alloc (by omega) _)
      have x3 : (w2.alloc (.cells #[.slice g2 us.length c2] 26)).cell? ⟨w2.heap.size, 0, none⟩ = some (.slice g2 us.length c2) := (cell_new _ _ _ 0).1
      have z3 : w2.heap.size + 1 ≤ (w2.alloc (.cells #[.slice g2 us.length c2] 26)).heap.size := by simp
      have O3 : Hid ((g2 = ad ∧ c2 = cap ∧ us = es) ∨ OwnTab (w2.alloc (.cells #[.slice g2 us.length c2] 26)) (w1.heap.size + 1) (.slice g2 us.length c2) us) := O2.out.imp id (fun o2 => OwnTab.below (OwnTab.mono o2 (by simp)) ((Below.refl _ _).alloc (Nat.le_refl _) _))
      obtain ⟨w3, hw3⟩ : ∃ w3, w3 = w2.alloc (.cells #[.slice g2 us.length c2] 26) := ⟨_, rfl⟩
      obtain ⟨k2, hk2⟩ : ∃ k2, k2 = w2.heap.size := ⟨_, rfl⟩
      rw [← hw3] at BF x3 z3 O3 r3 g03
      rw [← hk2] at x3 z3 z2
      rw [← hw3, ← hk2]
      clear hw3 hk2 r2 g02 O2 B2 B1 r0 t0 g0 t1 r1 g1
      go_region_with (go_at_call 143; refine (specLinPort_any 50 q _).mono ?_; rintro e w4 ⟨rfl, b4⟩; have B4 : Hid (Below w3.heap.size w3 w4) := ((Below.refl _ _).drew).trans b4; have x4 : w4.cell? ⟨k2, 0, none⟩ = some (.slice g2 us.length c2) := (by rw [B4.out.cell (by simp; omega)]; exact x3); have r4 : w4.cell? ⟨w.heap.size + 1, 0, none⟩ = some (.slice none 0 0) := (by rw [B4.out.cell (by simp; omega)]; exact r3); have g04 : w4.frozen? ⟨w.heap.size + 1, 0, none⟩ = false := (by rw [B4.out.frozen (by simp; omega)]; exact g03))
      all_goals
        go_wp2_with fail
        refine bodyPost_ret (v := .tuple #[.agg #[.slice g2 us.length c2], .string ⟨(lpL 50 q).toArray⟩]) (by simp [results, Tryz.results132, go_sem, World.cell?_setCell_same _ _ _ r4]) rfl ?_
        have BG : Below w.heap.size w (w4.setCell ⟨w.heap.size + 1, 0, none⟩ (.slice g2 us.length c2)) := (BF.out.trans (B4.out.mono BF.out.size)).setCell (by simp) _
        refine ⟨_, _, rfl, ?_, BG⟩
        rcases O3.out with ⟨rfl, rfl, rfl⟩ | o3
        · exact HO.out.below BG
        · exact OwnTab.mono (B := w1.heap.size) (ownsRow_setCell_below (OwnTab.below (OwnTab.mono o3 (by simp)) B4.out) (by simp; omega) _) (by omega)

set_option maxRecDepth 100000 in
set_option maxHeartbeats 3200000 in
theorem specStream_anyG (B : Nat) (ad : Option Addr) (cap : Nat) (es : List (Int × Int)) (s : ByteArray) (w : World) (hm : mapB es = true) (hs : s.size ≤ 2097152) (hB : B ≤ w.heap.size) (ho : OwnTab w B (.slice ad es.length cap) es) :
    Calls Tryz.prog 104 #[.agg #[.slice ad es.length cap], .string s] w fun e w' => ∃ g c, e = .returned (.tuple #[.agg #[.slice g (streamE es (linesL s.data.toList)).1.length c], .string ⟨(streamE es (linesL s.data.toList)).2.toArray⟩]) ∧ OwnTab w' B (.slice g (streamE es (linesL s.data.toList)).1.length c) (streamE es (linesL s.data.toList)).1 ∧ Below w.heap.size w w' := by
  have HO := Lib.hid ho
  have HM := Lib.hid hm
  have hlz : ∀ x ∈ linesL s.data.toList, x.length ≤ 2097152 := fun x hx => by have := line_len hx; rw [len_list] at this; omega
  have hl0 := lines_len s.data.toList
  rw [len_list] at hl0
  have HL : Hid (∀ w, Calls Tryz.prog 123 #[.string s] w fun e w' => ∃ v, e = .returned (.tuple #[v, .string ⟨(restL s.data.toList).toArray⟩]) ∧ w'.ownsRow w.heap.size 9 1 v (linesL s.data.toList).length ((linesL s.data.toList).map strV) ∧ Below w.heap.size w w') := fun w => specLines_any s w hs
  obtain ⟨ls, hls⟩ : ∃ ls, ls = linesL s.data.toList := ⟨_, rfl⟩
  obtain ⟨rs, hrs⟩ : ∃ rs, rs = (restL s.data.toList).toArray := ⟨_, rfl⟩
  rw [← hls] at HL hlz hl0 ⊢
  rw [← hrs] at HL
  have hln : ls.length ≤ 2097152 := by omega
  have HLZ := Lib.hid hlz
  clear ho hm hls hrs hlz hl0
  go_enter Tryz.func104, Tryz.ntmps104
  go_wp2_with fail
  (go_at_call 123; refine (HL.out _).mono ?_; rintro e w1 ⟨vl, rfl, own1, b1⟩; obtain ⟨cA, cB, b01, z1⟩ := cell_two b1; have t0 := (cA 0).1; have f0 := (cA 0).2; have r0 := (cB 0).1; have g0 := (cB 0).2; simp at t0 r0; have own1 := own_base (B' := w.heap.size + 2) own1 (by simp <;> omega); obtain ⟨al, capl, rfl⟩ := own_form own1; have OWN1 := Lib.hid own1; have B1 := Lib.hid b01; have T0 : Hid (Tag w1 w.heap.size 26) := (⟨_, _, (b1.block w.heap.size (by simp <;> omega)).trans ((Below.heap_alloc _ _ _ (by simp <;> omega)).trans (heap_alloc_new w _))⟩ : Tag w1 w.heap.size 26); have T1 : Hid (Tag w1 (w.heap.size + 1) 26) := (by obtain ⟨cs, fz, hh⟩ := Tag.new (w.alloc (.cells #[.slice ad es.length cap] 26)) #[.slice none 0 0] 26; simp only [World.size_alloc] at hh; exact ⟨cs, fz, (b1.block (w.heap.size + 1) (by simp)).trans hh⟩); clear cA cB b1 b01 own1)
  go_wp2_with fail
  go_loopw [8, 9, 10, 11] (fun o i _ _ wr => ∃ (k : Nat) (us : List (Int × Int)) (x : List UInt8) (g : Option Addr) (c : Nat), k ≤ ls.length ∧ i = .int .i64 k ∧ o = .string ⟨x.toArray⟩ ∧ (us, x) = streamE es (ls.take k) ∧ x.length ≤ k * 2097173 ∧ wr.cell? ⟨w.heap.size, 0, none⟩ = some (.slice g us.length c) ∧ wr.frozen? ⟨w.heap.size, 0, none⟩ = false ∧ Tag wr w.heap.size 26 ∧ Tag wr (w.heap.size + 1) 26 ∧ OwnTab wr B (.slice g us.length c) us ∧ wr.cell? ⟨w.heap.size + 1, 0, none⟩ = some (.slice none 0 0) ∧ wr.frozen? ⟨w.heap.size + 1, 0, none⟩ = false ∧ wr.ownsRow (w.heap.size + 2) 9 1 (.slice al ls.length capl) ls.length (ls.map strV) ∧ Below w.heap.size w wr ∧ w.heap.size + 2 ≤ wr.heap.size) (fun _ i _ _ _ => ls.length - (intOf i).toNat)
  case atStart => exact ⟨0, es, [], ad, cap, Nat.zero_le _, rfl, rfl, rfl, by simp, t0, f0, T0.out, T1.out, HO.out.below B1.out, r0, g0, OWN1.out, B1.out, z1⟩
  case round =>
    obtain ⟨k, us, x, g, c, hk, rfl, rfl, hT, hxk, t2, f2, tg, tg1, ho, r2, g2, own, hb, hz⟩ := hrel
    have HT := Lib.hid hT
    have HO2 := Lib.hid ho
    have HTG := Lib.hid tg
    have HTG1 := Lib.hid tg1
    clear tg1
    have HOW := Lib.hid own
    have HB := Lib.hid hb
    clear hT ho tg hb
    by_cases hlt : k < ls.length
    · obtain ⟨gl, cl, hv, hgB, hgl, hcl, hcells⟩ := own_cells own (by omega)
      simp at hv
      obtain ⟨rfl, rfl⟩ := hv
      obtain ⟨q0, _⟩ := hcells k (by simpa using hlt)
      simp only [List.getElem_map] at q0
      have hx := HLZ.out ls[k] (List.getElem_mem hlt)
      have HTK : Hid (ls.take (k + 1) = ls.take k ++ [ls[k]]) := List.take_succ_eq_append_getElem hlt
      obtain ⟨y, hy⟩ : ∃ y, y = ls[k] := ⟨_, rfl⟩
      rw [← hy] at q0 hx HTK
      have hul : us.length ≤ 6 := by
        have := mapB_le (streamE_ok HM.out (ls.take k))
        rw [← HT.out] at this
        exact this
      obtain ⟨us', hus⟩ : ∃ us', us' = (lineE us y).1 := ⟨_, rfl⟩
      obtain ⟨x', hx'⟩ : ∃ x', x' = (lineE us y).2 := ⟨_, rfl⟩
      have HN : Hid ((us', x ++ x' ++ [59]) = streamE es (ls.take (k + 1))) := by
        show _ = _
        rw [HTK.out, streamE_snoc, ← HT.out, hus, hx']; rfl
      have hxl : x'.length ≤ 2097172 := by have := lineE_len us y; rw [hx']; omega
      have hxb : x.length ≤ 4400000000000 := by have : k * 2097173 ≤ 2097152 * 2097173 := Nat.mul_le_mul_right _ (by omega); omega
      have hxn : (x ++ x' ++ [59]).length ≤ (k + 1) * 2097173 := by simp; omega
      have HXN := Lib.hid hxn
      clear hxn
      have HC : Hid (∀ w0, B ≤ w0.heap.size → OwnTab w0 B (.slice g us.length c) us → Calls Tryz.prog 132 #[.agg #[.slice g us.length c], strV y] w0 fun e w' => ∃ g c, e = .returned (.tuple #[.agg #[.slice g us'.length c], .string ⟨x'.toArray⟩]) ∧ OwnTab w' B (.slice g us'.length c) us' ∧ Below w0.heap.size w0 w') := fun w0 h1 h2 => by
        rw [hus, hx']
        exact specLine_anyG B g c us ⟨y.toArray⟩ w0 (by omega) (by show y.toArray.size ≤ _; simpa using hx) h1 h2
      have hk2 : (k : Int) ≤ (capl : Int) := by omega
      have hk3 : (k : Int) ≤ 2097152 := by omega
      have mk : Hid (∀ w', Below wr.heap.size wr w' → w'.cell? ⟨w.heap.size, 0, none⟩ = some (.slice g us.length c) ∧ w'.cell? ⟨gl, k, none⟩ = some (strV y) ∧ Below wr.heap.size wr w') := fun w' h => ⟨box_below t2 h, box_below q0 h, h⟩
      clear hcells hy own hx hus hx'
      go_upto_region 6 with fail
      go_cut [10, 11] (fun s10 s11 wx => ∃ b g c, s10 = .pointer (some ⟨b, 0, none⟩) ∧ s11 = .string ⟨x'.toArray⟩ ∧ wx.cell? ⟨b, 0, none⟩ = some (.slice g us'.length c) ∧ OwnTab wx B (.slice g us'.length c) us' ∧ Below wr.heap.size wr wx)
      case first =>
        go_region_held3 (fun w' => w'.cell? ⟨w.heap.size, 0, none⟩ = some (.slice g us.length c) ∧ w'.cell? ⟨gl, k, none⟩ = some (strV y) ∧ Below wr.heap.size wr w')
          (first
            | exact mk.out _ (Below.refl _ _).drew
            | exact mk.out _ cc
            | exact mk.out _ (cc.alloc cc.size _)
            | exact mk.out _ (cc.setCell (by first | (simp; done) | (simp; omega)) _)
            | exact mk.out _ (((Below.refl _ _).drew).alloc (Nat.le_refl _) _)
            | (trace_state; fail))
          (first | (go_at_call 132; have hS := (by assumption : _ ∧ _ ∧ Below wr.heap.size wr _); refine (HC.out _ (Nat.le_trans (by omega : B ≤ wr.heap.size) hS.2.2.size) (HO2.out.below hS.2.2)).mono ?_; rintro e wN ⟨gN, cN, rfl, oN, bN⟩; have ON := Lib.hid oN; have cc : Below wr.heap.size wr wN := hS.2.2.trans (bN.mono hS.2.2.size); (first | (have hk := fresh1 bN; obtain ⟨k0, kf⟩ := hk; have kt := fresh1t bN) | (have hk := fresh1d bN; obtain ⟨k0, kf⟩ := hk; have kt := fresh1dt bN) | skip)))
        all_goals (go_wp2_with fail; go_meet)
        all_goals (first | exact ⟨_, _, _, rfl, rfl, by simp, ON.out.below ((Below.refl _ _).alloc (Nat.le_refl _) _), cc.alloc cc.size _⟩ | exact ⟨_, _, _, rfl, rfl, World.cell?_setCell_same _ _ _ k0, ON.out.setTag kt tab_ne _, cc.setCell (by first | (simp; done) | (simp; omega)) _⟩ | (trace_state; fail))
      case rest =>
        obtain ⟨b, gN, cN, rfl, rfl, kN, oN, bN⟩ := hcut
        have ON := Lib.hid oN
        have BN := Lib.hid bN
        have t3 := box_below t2 bN
        have f3 := box_frozen t2 f2 bN
        have r3 := box_below r2 bN
        have g3 := box_frozen r2 g2 bN
        have TG3 := Lib.hid (HTG.out.later bN)
        have OW3 := Lib.hid (own_below HOW.out bN)
        have zN := bN.size
        have HSX : Hid ((⟨x.toArray⟩ : ByteArray) ++ ⟨x'.toArray⟩ ++ ⟨#[59]⟩ = ⟨(x ++ x' ++ [59]).toArray⟩) := by
          show _ = _
          apply ByteArray.ext
          apply Array.ext'
          simp
        clear oN bN t2 f2 r2 g2 q0
        clear hxk
        go_wp2_with fail
        go_roundw
        case rel =>
          refine ⟨k + 1, us', x ++ x' ++ [59], gN, cN, by omega, by go_num, by rw [HSX.out], HN.out, HXN.out, World.cell?_setCell_same _ _ _ t3, by rw [World.frozen?_setCell]; exact f3, TG3.out.setCell _ _, (HTG1.out.later BN.out).setCell _ _, ON.out.setTag TG3.out tab_ne _, ?_, by rw [World.frozen?_setCell]; exact g3, ownsRow_setCell_below OW3.out (by simp) _, ?_, by simp; omega⟩
          · rw [World.cell?_setCell_far _ ⟨w.heap.size, 0, none⟩ ⟨w.heap.size + 1, 0, none⟩ _ (by show w.heap.size ≠ w.heap.size + 1; omega)]; exact r3
          · exact (HB.out.trans (BN.out.mono (by omega))).setCell (by simp) _
        case measure => simp [intOf]; omega
    · have hke : k = ls.length := by omega
      have HTE : Hid ((us, x) = streamE es ls) := by show _ = _; rw [HT.out, hke, List.take_length]
      clear hlt
      go_wp2_with fail
      refine bodyPost_ret (v := .tuple #[.agg #[.slice g us.length c], .string ⟨x.toArray⟩]) (by simp [results, Tryz.results104, go_sem, World.cell?_setCell_same _ _ _ r2]) rfl ?_
      rw [← HTE.out]
      refine ⟨g, c, rfl, HO2.out.setTag HTG1.out tab_ne _, HB.out.setCell (by simp) _⟩

end Go.Proofs.YtgfkiljkpkfapaaGreatDoor

/- A box whose lists lie at any address; whether a stream's lines give no port, at a table that may be nil. Conditions: at most 2^22 ends; texts of at most 2^21 bytes. -/
namespace Go.Proofs.YtgfkiljkpkfapaaGreatDoor
open Go.RowKit Go.Sort

/-- A box as it is read, its lists at whatever address; its table in a list of the call's own, or nil. -/
def GBx (w : World) (B : Nat) (v : Value) (b : Bx) : Prop := ∃ a1 c1 a2 c2 a3 c3, v = .agg #[.slice a1 b.rs.length c1, .slice a2 b.es.length c2, .slice a3 b.cs.length c3] ∧
  RdRl w (.slice a1 b.rs.length c1) b.rs ∧ OwnTab w B (.slice a2 b.es.length c2) b.es ∧ RdCn w (.slice a3 b.cs.length c3) b.cs
theorem GBx.later {w w' : World} {B : Nat} {v : Value} {b : Bx} (h : GBx w B v b) (hb : Below w.heap.size w w') : GBx w' B v b := by
  obtain ⟨a1, c1, a2, c2, a3, c3, rfl, h1, h2, h3⟩ := h
  exact ⟨a1, c1, a2, c2, a3, c3, rfl, h1.below hb, own_later h2 hb, h3.below hb⟩
theorem GBx.mono {w : World} {B B' : Nat} {v : Value} {b : Bx} (h : GBx w B v b) (hB : B' ≤ B) : GBx w B' v b := by
  obtain ⟨a1, c1, a2, c2, a3, c3, rfl, h1, h2, h3⟩ := h
  exact ⟨a1, c1, a2, c2, a3, c3, rfl, h1, OwnTab.mono h2 hB, h3⟩
theorem OwnBx.gen {w : World} {B : Nat} {v : Value} {b : Bx} (h : OwnBx w B v b) : GBx w B v b := by
  obtain ⟨g1, g2, c2, g3, rfl, h1, h2, h3⟩ := h
  exact ⟨_, _, _, _, _, _, rfl, h1.rd, h2, h3.rd⟩
theorem GBx.rd {w : World} {B : Nat} {v : Value} {b : Bx} (h : GBx w B v b) : RdBx w v b := by
  obtain ⟨a1, c1, a2, c2, a3, c3, rfl, h1, h2, h3⟩ := h
  exact ⟨_, _, _, rfl, h1, OwnTab.tab h2, h3⟩

set_option maxRecDepth 100000 in
set_option maxHeartbeats 1600000 in
theorem specKnow_anyG (B : Nat) (ad : Option Addr) (cap : Nat) (es : List (Int × Int)) (s : ByteArray) (w : World) (hm : mapB es = true) (hs : s.size ≤ 2097152) (hB : B ≤ w.heap.size) (ho : OwnTab w B (.slice ad es.length cap) es) :
    Calls Tryz.prog 87 #[.agg #[.slice ad es.length cap], .string s] w fun e w' => e = .returned (.bool (knowB es s.data.toList)) ∧ Below w.heap.size w w' := by
  have B0 : Hid (Below w.heap.size w (w.alloc (.cells #[.slice ad es.length cap] 26))) := (Below.refl _ _).alloc (Nat.le_refl _) _
  have HO : Hid (OwnTab (w.alloc (.cells #[.slice ad es.length cap] 26)) B (.slice ad es.length cap) es) := ho.below B0.out
  obtain ⟨us, hus⟩ : ∃ us, us = streamE es (linesL s.data.toList) := ⟨_, rfl⟩
  have HC : Hid (∀ w, B ≤ w.heap.size → OwnTab w B (.slice ad es.length cap) es → Calls Tryz.prog 104 #[.agg #[.slice ad es.length cap], .string s] w fun e w' => ∃ (g : Option Addr) (c : Nat), e = .returned (.tuple #[.agg #[.slice g us.1.length c], .string ⟨us.2.toArray⟩]) ∧ Below w.heap.size w w') := fun w hB ho => by
    rw [hus]
    refine (specStream_anyG B ad cap es s w hm hs hB ho).mono ?_
    rintro e w' ⟨g, c, rfl, _, b⟩
    exact ⟨g, c, rfl, b⟩
  have HK : Hid (knowB es s.data.toList = decide (us.1.length = es.length)) := by show knowB _ _ = _; rw [hus]; rfl
  obtain ⟨k, hk⟩ : ∃ k, k = us.1.length := ⟨_, rfl⟩
  obtain ⟨n, hn⟩ : ∃ n, n = es.length := ⟨_, rfl⟩
  obtain ⟨ot, hot⟩ : ∃ o : ByteArray, o = ⟨us.2.toArray⟩ := ⟨_, rfl⟩
  rw [← hk, ← hot] at HC
  rw [← hk, ← hn] at HK
  rw [← hn] at HC HO B0 ⊢
  clear hk hn hot hus ho hm
  have hB2 : B ≤ (w.alloc (.cells #[.slice ad n cap] 26)).heap.size := by simp; omega
  obtain ⟨q, hq⟩ : ∃ q, q = knowB es s.data.toList := ⟨_, rfl⟩
  rw [← hq] at HK ⊢
  clear hq
  by_cases he : k = n
  · subst he
    have hq : q = true := by have := HK.out; simpa using this
    subst hq
    go_enter Tryz.func87, Tryz.ntmps87
    go_wp2_with fail
    (go_at_call 104; refine (HC.out _ hB2 HO.out).mono ?_; rintro e w1 ⟨g, c, rfl, b1⟩)
    obtain ⟨x0, _⟩ := fresh1 b1
    have hsz : w.heap.size < w1.heap.size := by have := b1.size; simp at this; omega
    have B1 : Hid (Below w.heap.size w w1) := B0.out.trans (b1.mono (by simp))
    clear b1
    go_wp2
    go_ret
    exact ⟨rfl, B1.out.alloc (by omega) _⟩
  · have hq : q = false := by have := HK.out; simpa [he] using this
    subst hq
    go_enter Tryz.func87, Tryz.ntmps87
    go_wp2_with fail
    (go_at_call 104; refine (HC.out _ hB2 HO.out).mono ?_; rintro e w1 ⟨g, c, rfl, b1⟩)
    obtain ⟨x0, _⟩ := fresh1 b1
    have hsz : w.heap.size < w1.heap.size := by have := b1.size; simp at this; omega
    have B1 : Hid (Below w.heap.size w w1) := B0.out.trans (b1.mono (by simp))
    clear b1
    go_wp2
    go_ret
    exact ⟨ret_bool (by simp; omega), B1.out.alloc (by omega) _⟩

end Go.Proofs.YtgfkiljkpkfapaaGreatDoor

/- A box in memory of its own, as the specification copies it, its lists at any address. Condition: at most 2^20 rules, ends and streams each. -/
namespace Go.Proofs.YtgfkiljkpkfapaaGreatDoor
open Go.RowKit Go.Sort

/-- append of a slice, at any address or nil, onto a slice of the call's own that is not nil, at a step of a region that draws its order. -/
theorem step_append_src {P : Program} (w : World) {ops : Array Oper} {o : Oper} {a : Act} {K : Act → World → Prop} {Q : Exit → Act → World → Prop} {E : Prop} (hgd : o.guard = none) (s x : Operand) (t : TypeId)
    (ho : o.op = .call { callee := .builtin .append, args := #[s, x], argTypes := #[t, t] })
    (base : Nat) (e : TypeId) (i : TypeInfo) (z : Value) (size bytes : Nat) (ht : P.underlying t = some (.slice e)) (hi : P.info? e = some i) (hz : i.zero = some z)
    (hsize : i.size = size) (hby : i.bytes = bytes) (hzs : z.cells.size = size) (hsz : 0 < size)
    (v : Value) (n : Nat) (xs : List Value) (hs : a.eval s = v) (hown : w.ownsRow base e size v n xs) (hne : v ≠ .slice none 0 0)
    (xa : Option Addr) (m c : Nat) (news : List Value) (hx : a.eval x = .slice xa m c) (hl : news.length = m * size) (hnil : xa = none → m = 0) (hnews : ∀ ad, xa = some ad → ∀ j u, news[j]? = some u → w.cell? (ad.add j) = some u) (h1 : ∀ u ∈ news, u.oneCell' = true)
    (h63 : n + m ≤ maxLen) (hbytes : (n + m) * bytes ≤ 140737488355328) (hbase : base ≤ w.heap.size)
    (h : ∀ g cap w', w'.ownsRow base e size (.slice (some ⟨g, 0, none⟩) (n + m) cap) (n + m) (xs ++ news) → w.grownBy w' v.ownBlock → base ≤ g → K (a.put o.dst (.slice (some ⟨g, 0, none⟩) (n + m) cap)) w') :
    if Region.wanted o (yielded ops a.tmps) = true then Oper.wp P o a w K Q else E := by
  cases xa with
  | some ad => exact step_append_some w hgd s x t ho base e i z size bytes ht hi hz hsize hby hzs hsz v n xs hs hown hne ad m c news hx hl (hnews ad rfl) h1 h63 hbytes hbase h
  | none =>
    obtain rfl := hnil rfl
    obtain rfl : news = [] := List.eq_nil_of_length_eq_zero (by simpa using hl)
    exact step_append_nil w hgd s x t ho base e i z size bytes ht hi hz hsize hby hzs hsz v n xs hs hown hne c hx h

set_option maxRecDepth 100000 in
set_option maxHeartbeats 3200000 in
theorem specCopy7_atG (x1 x2 x3 : Option Addr) (c1 c2 c3 : Nat) (b : Bx) (w : World) (hs : bxSz b) (n1 : x1 = none → b.rs.length = 0) (n3 : x3 = none → b.cs.length = 0) (h1 : RdRl w (.slice x1 b.rs.length c1) b.rs) (h2 : TabAt w (.slice x2 b.es.length c2) b.es) (h3 : RdCn w (.slice x3 b.cs.length c3) b.cs) :
    Calls Tryz.prog 37 #[.agg #[.slice x1 b.rs.length c1, .slice x2 b.es.length c2, .slice x3 b.cs.length c3]] w fun e w' => ∃ u, e = .returned u ∧ OwB w' w.heap.size u b ∧ Below w.heap.size w w' := by
  obtain ⟨m1, m2, m3, -⟩ := hs
  obtain ⟨i0, hi, hz0, hz1, hz2⟩ := info_parts infoRl
  obtain ⟨i3, hj, hy0, hy1, hy2⟩ := info_parts infoCn
  obtain ⟨W, hW⟩ : ∃ W, W = (w.alloc (.cells #[.slice x1 b.rs.length c1, .slice x2 b.es.length c2, .slice x3 b.cs.length c3] 29)).alloc (.cells #[.slice none 0 0, .slice none 0 0, .slice none 0 0] 29) := ⟨_, rfl⟩
  have hB : Below w.heap.size w W := by rw [hW]; exact ((Below.refl _ _).alloc (Nat.le_refl _) _).alloc (by simp) _
  have hs0 : W.heap.size = w.heap.size + 1 + 1 := by rw [hW]; simp
  have K0 : Hid (Blk W w.heap.size 29 [.slice x1 b.rs.length c1, .slice x2 b.es.length c2, .slice x3 b.cs.length c3]) := by
    show Blk W _ _ _
    rw [hW]; exact (three_new w _ _ _ _).below ((Below.refl _ _).alloc (Nat.le_refl _) _)
  have K1 : Hid (Blk W (w.heap.size + 1) 29 [.slice none 0 0, .slice none 0 0, .slice none 0 0]) := by
    have h := three_new (w.alloc (.cells #[.slice x1 b.rs.length c1, .slice x2 b.es.length c2, .slice x3 b.cs.length c3] 29)) (.slice none 0 0) (.slice none 0 0) (.slice none 0 0) 29
    show Blk W (w.heap.size + 1) 29 _
    rw [hW]
    simpa using h
  have CP : Hid (Cp w (.slice x1 b.rs.length c1) (.slice x2 b.es.length c2) (.slice x3 b.cs.length c3) W) := by
    obtain ⟨⟨k0, k1, k2⟩, -⟩ := three_all K0.out
    exact ⟨hB, by omega, k0, k1, k2⟩
  have HN1 := Lib.hid n1
  have HN3 := Lib.hid n3
  clear n1 n3
  have H1 : Hid (∀ w', Below w.heap.size w w' → ∀ x, x1 = some x → ∀ (j : Nat) (u : Value), (flatC rlC b.rs)[j]? = some u → w'.cell? (x.add j) = some u) := fun w' h x e => rul_news (e ▸ h1.below h)
  have H2 : Hid (∀ w', Below w.heap.size w w' → Calls Tryz.prog 81 #[.agg #[.slice x2 b.es.length c2]] w' fun e w'' => ∃ g c, e = .returned (.agg #[.slice (some g) b.es.length c]) ∧ OwnTab w'' w'.heap.size (.slice (some g) b.es.length c) b.es ∧ Below w'.heap.size w' w'') := fun w' h => specCopy_any _ b.es w' (by omega) (h2.below h)
  have H3 : Hid (∀ w', Below w.heap.size w w' → ∀ x, x3 = some x → ∀ (j : Nat) (u : Value), (flatC cnC b.cs)[j]? = some u → w'.cell? (x.add j) = some u) := fun w' h x e => rdc_news cnC_len (e ▸ RdC.below cnC_len (by decide) h3 h)
  have n1 : b.rs.length ≤ 4194304 := by omega
  have n3 : b.cs.length ≤ 4194304 := by omega
  clear h1 h2 h3 m1 m2 m3 K0 hB
  subst hW
  go_enter Tryz.func37, Tryz.ntmps37
  go_wp2_with fail
  obtain ⟨W, hW⟩ : ∃ W, W = (w.alloc (.cells #[.slice x1 b.rs.length c1, .slice x2 b.es.length c2, .slice x3 b.cs.length c3] 29)).alloc (.cells #[.slice none 0 0, .slice none 0 0, .slice none 0 0] 29) := ⟨_, rfl⟩
  rw [← hW]
  rw [← hW] at K1 CP hs0
  clear hW
  have HS := Lib.hid hs0
  clear hs0
  go_region_held3 (fun w' => Below w.heap.size w w' ∧ w.heap.size + 1 + 1 ≤ w'.heap.size ∧ w'.cell? ⟨w.heap.size, 0, none⟩ = some (.slice x1 b.rs.length c1) ∧ w'.cell? ⟨w.heap.size, 1, none⟩ = some (.slice x2 b.es.length c2) ∧ w'.cell? ⟨w.heap.size, 2, none⟩ = some (.slice x3 b.cs.length c3))
    (first
      | (show Cp w (.slice x1 b.rs.length c1) (.slice x2 b.es.length c2) (.slice x3 b.cs.length c3) _; repeat (first | with_reducible exact cc | with_reducible exact CP.out | with_reducible refine Cp.drew ?_ | with_reducible refine Cp.alloc ?_ _ | with_reducible refine Cp.set ?_ _ _))
      | (trace_state; fail))
    (first
      | (go_at_call 81
         have hS : Cp w (.slice x1 b.rs.length c1) (.slice x2 b.es.length c2) (.slice x3 b.cs.length c3) _ := (by assumption : Below w.heap.size w _ ∧ _)
         refine (H2.out _ hS.1).mono ?_
         rintro e wB ⟨gB, cB, rfl, oB, bB⟩
         have cc := hS.call bB
         have OB : Hid (OwnTab wB (w.heap.size + 1 + 1) (.slice (some gB) b.es.length cB) b.es) := OwnTab.mono oB hS.2.1
         have OA2 : Hid (OwnRl wB (w.heap.size + 1 + 1) (.slice (some ⟨gA, 0, none⟩) b.rs.length cA) b.rs) := (by first | exact own_later OA.out bB | exact own_later (World.ownsRow.drew OA.out) bB | exact own_later (World.ownsRow.alloc OA.out _) bB | exact own_later (World.ownsRow.drew (World.ownsRow.alloc OA.out _)) bB)
         have KB : Hid (Blk wB (w.heap.size + 1) 29 [.slice none 0 0, .slice none 0 0, .slice none 0 0]) := Blk.below (by (repeat (first | with_reducible exact KA.out | with_reducible refine Blk.drew ?_ | with_reducible refine Blk.alloc ?_ _)); done) bB
         first
           | (have EC2 := Lib.hid (EC.out.below bB))
           | (have EC2 := Lib.hid (Blk.below (Blk.drew EC.out) bB))
           | (have EC2 := Lib.hid (Blk.below (Blk.newE (w := wA) (t := 49) rfl) bB))
           | (have EC2 := Lib.hid (Blk.below (Blk.drew (Blk.newE (w := wA) (t := 49) rfl)) bB))
           | skip
         have ZB : Hid (w.heap.size + 1 + 1 ≤ wB.heap.size) := cc.2.1
         clear oB bB)
      | (have hS : Cp w (.slice x1 b.rs.length c1) (.slice x2 b.es.length c2) (.slice x3 b.cs.length c3) _ := (by assumption : Below w.heap.size w _ ∧ _)
         refine step_append_src _ (by rfl) (.tmp 3) (.tmp 5) 23 rfl (w.heap.size + 1 + 1) 115 i0 (.agg #[.bool false, .int .i64 0, .int .i64 0, .int .i64 0, .int .i64 0, .int .i64 0, .int .i64 0]) 7 56 Tryz.underlying23 hi hz0 hz1 hz2 rfl (by decide) (.slice (some ⟨_, 0, none⟩) 0 0) 0 [] (by rfl) (Blk.empty (by (repeat (first | with_reducible exact Blk.newE (by (simp; done)) | with_reducible refine Blk.drew ?_ | with_reducible refine Blk.alloc ?_ _)); done) (by have := HS.out; simp; omega)) (by simp) x1 b.rs.length c1 (flatC rlC b.rs) (by rfl) (flatC_len rlC_len b.rs) HN1.out (H1.out _ hS.1) (flatC_one rlC_one b.rs) (by unfold maxLen; omega) (by omega) hS.2.1 ?_
         intro gA cA wA hown hgrow hg
         have OA : Hid (OwnRl wA (w.heap.size + 1 + 1) (.slice (some ⟨gA, 0, none⟩) b.rs.length cA) b.rs) := (by show World.ownsRow _ _ _ _ _ _ _; simpa using hown)
         have cc : Cp w (.slice x1 b.rs.length c1) (.slice x2 b.es.length c2) (.slice x3 b.cs.length c3) wA := Cp.grown hS hgrow (by have := HS.out; simp; omega)
         have KA : Hid (Blk wA (w.heap.size + 1) 29 [.slice none 0 0, .slice none 0 0, .slice none 0 0]) := Blk.grown (by (repeat (first | with_reducible exact K1.out | with_reducible refine Blk.drew ?_ | with_reducible refine Blk.alloc ?_ _)); done) hgrow (by have := HS.out; simp; omega)
         first
           | (have EC := Lib.hid (Blk.grown (Blk.drew (Blk.new1 W _ 49)) hgrow (Nat.succ_ne_self _)))
           | (have EC := Lib.hid (Blk.grown (Blk.new1 W _ 49) hgrow (Nat.succ_ne_self _)))
           | (have EC := Lib.hid (Blk.grown (Blk.drew (Blk.alloc (Blk.newE (w := W) (t := 49) rfl) _)) hgrow (Nat.succ_ne_self _).symm))
           | (have EC := Lib.hid (Blk.grown (Blk.alloc (Blk.newE (w := W) (t := 49) rfl) _) hgrow (Nat.succ_ne_self _).symm))
           | skip
         have ZA : Hid (w.heap.size + 1 + 1 ≤ wA.heap.size) := cc.2.1
         clear hown hgrow hg)
      | (have hS : Cp w (.slice x1 b.rs.length c1) (.slice x2 b.es.length c2) (.slice x3 b.cs.length c3) _ := (by assumption : Below w.heap.size w _ ∧ _)
         refine step_append_src _ (by rfl) (.tmp 10) (.tmp 12) 27 rfl (w.heap.size + 1 + 1) 49 i3 (.agg #[.int .i64 0, .int .i64 0, .int .i64 0, .int .i64 0, .string ⟨#[]⟩, .string ⟨#[]⟩, .string ⟨#[]⟩]) 7 80 Tryz.underlying27 hj hy0 hy1 hy2 rfl (by decide) (.slice (some ⟨_, 0, none⟩) 0 0) 0 [] (by rfl) (Blk.empty (by (repeat (first | with_reducible exact EC2.out | with_reducible exact Blk.newE (by (simp; done)) | with_reducible refine Blk.drew ?_ | with_reducible refine Blk.alloc ?_ _)); done) (by have := HS.out; have := hS.2.1; have := ZA.out; have := ZB.out; first | omega | (simp; omega))) (by simp) x3 b.cs.length c3 (flatC cnC b.cs) (by rfl) (flatC_len cnC_len b.cs) HN3.out (H3.out _ hS.1) (flatC_one cnC_one b.cs) (by unfold maxLen; omega) (by omega) hS.2.1 ?_
         intro gC cC wC hown hgrow hg
         have OC : Hid (OwnCn wC (w.heap.size + 1 + 1) (.slice (some ⟨gC, 0, none⟩) b.cs.length cC) b.cs) := (by show World.ownsRow _ _ _ _ _ _ _; simpa using hown)
         have cc : Cp w (.slice x1 b.rs.length c1) (.slice x2 b.es.length c2) (.slice x3 b.cs.length c3) wC := Cp.grown hS hgrow (by have := HS.out; have := hS.2.1; have := ZA.out; have := ZB.out; first | omega | (simp; omega))
         first
           | (have OA3 : Hid (OwnRl wC (w.heap.size + 1 + 1) (.slice (some ⟨gA, 0, none⟩) b.rs.length cA) b.rs) := own_apart OA2.out EC2.out hgrow (by decide)
              have OB3 : Hid (OwnTab wC (w.heap.size + 1 + 1) (.slice (some gB) b.es.length cB) b.es) := own_apart OB.out EC2.out hgrow (by decide)
              have KC : Hid (Blk wC (w.heap.size + 1) 29 [.slice none 0 0, .slice none 0 0, .slice none 0 0]) := Blk.grown KB.out hgrow (by have := HS.out; have := ZA.out; have := ZB.out; simp; omega))
           | (have OA3 : Hid (OwnRl wC (w.heap.size + 1 + 1) (.slice (some ⟨gA, 0, none⟩) b.rs.length cA) b.rs) := own_apart (World.ownsRow.alloc OA2.out _) (Blk.newE (t := 49) rfl) hgrow (by decide)
              have OB3 : Hid (OwnTab wC (w.heap.size + 1 + 1) (.slice (some gB) b.es.length cB) b.es) := own_apart (World.ownsRow.alloc OB.out _) (Blk.newE (t := 49) rfl) hgrow (by decide)
              have KC : Hid (Blk wC (w.heap.size + 1) 29 [.slice none 0 0, .slice none 0 0, .slice none 0 0]) := Blk.grown (Blk.alloc KB.out _) hgrow (by have := HS.out; have := hS.2.1; have := KB.out.lt; simp; omega))
           | (trace_state; fail)
         obtain ⟨⟨r0, r1, r2⟩, f0, f1, f2⟩ := three_all KC.out
         clear hown hgrow hg))
  all_goals
    go_wp2_with fail
    have hB3 := three_set KC.out (.slice (some ⟨gA, 0, none⟩) b.rs.length cA) (.slice (some gB) b.es.length cB) (.slice (some ⟨gC, 0, none⟩) b.cs.length cC)
    obtain ⟨⟨q0, q1, q2⟩, -⟩ := three_all hB3
    refine bodyPost_ret (v := .agg #[.slice (some ⟨gA, 0, none⟩) b.rs.length cA, .slice (some gB) b.es.length cB, .slice (some ⟨gC, 0, none⟩) b.cs.length cC]) (by simp [results, Tryz.results37, go_sem, q0, q1, q2]) rfl ⟨_, rfl, ?_, ?_⟩
    · have hb : w.heap.size ≤ w.heap.size + 1 + 1 := by omega
      have hl : w.heap.size + 1 < w.heap.size + 1 + 1 := by omega
      have o : OwB wC (w.heap.size + 1 + 1) (.agg #[.slice (some ⟨gA, 0, none⟩) b.rs.length cA, .slice (some gB) b.es.length cB, .slice (some ⟨gC, 0, none⟩) b.cs.length cC]) b := ⟨_, _, _, _, _, _, rfl, OA3.out, own_ends OB3.out, OC.out⟩
      exact (((o.setCell hl _).setCell hl _).setCell hl _).base hb
    · exact (((cc.set _ _).set _ _).set _ _).1

theorem specCopy7_anyG (B : Nat) (v : Value) (b : Bx) (w : World) (hs : bxSz b) (ho : GBx w B v b) :
    Calls Tryz.prog 37 #[v] w fun e w' => ∃ u, e = .returned u ∧ OwB w' w.heap.size u b ∧ Below w.heap.size w w' := by
  obtain ⟨a1, c1, a2, c2, a3, c3, rfl, h1, h2, h3⟩ := ho
  refine specCopy7_atG _ _ _ _ _ _ b w hs (fun e => ?_) (fun e => ?_) h1 (OwnTab.tab (B := B) h2) h3
  · subst e
    obtain ⟨a, c, e, _, hr⟩ := h1
    simp only [Value.slice.injEq] at e
    rcases Nat.eq_zero_or_pos b.rs.length with h | h
    · exact h
    · obtain ⟨g, o, e2, _⟩ := hr h
      rw [← e.1] at e2; cases e2
  · subst e
    obtain ⟨a, c, e, _, hr⟩ := h3
    simp only [Value.slice.injEq] at e
    rcases Nat.eq_zero_or_pos b.cs.length with h | h
    · exact h
    · obtain ⟨g, e2, _⟩ := hr h
      rw [← e.1] at e2; cases e2
/-- A box that was copied reads as the one. -/
theorem OwB.gen {w : World} {B : Nat} {v : Value} {b : Bx} (h : OwB w B v b) : GBx w B v b := by
  obtain ⟨x1, c1, x2, c2, x3, c3, rfl, h1, h2, h3⟩ := h
  exact ⟨_, _, _, _, _, _, rfl, OwnRl.rd h1, ends_own h2, OwnCn.rd h3⟩

end Go.Proofs.YtgfkiljkpkfapaaGreatDoor

/- Whether streams are ok, as the specification asks, at a table that may be nil. Conditions: at most 2^22 streams; texts of at most 2^21 bytes. -/
namespace Go.Proofs.YtgfkiljkpkfapaaGreatDoor
open Go.RowKit Go.Sort

set_option maxRecDepth 100000 in
set_option maxHeartbeats 6400000 in
theorem specConn_anyG (B : Nat) (ar : Option Addr) (nr cr : Nat) (ad : Option Addr) (capt : Nat) (es : List (Int × Int)) (ac : Option Addr) (cc : Nat) (cs : List Cn) (k : Nat) (w : World) (hm : mapB es = true) (hB : B ≤ w.heap.size)
    (ho : OwnTab w B (.slice ad es.length capt) es) (hc : RdCn w (.slice ac cs.length cc) cs) (hk : k < cs.length) (hn : cs.length ≤ 4194304) (hsz : cnSz cs) :
    Calls Tryz.prog 44 #[.agg #[.slice ar nr cr, .slice ad es.length capt, .slice ac cs.length cc], .int .i64 k] w fun e w' => e = .returned (.bool (connB es cs k)) ∧ Below w.heap.size w w' := by
  have hle : es.length ≤ 6 := by
    unfold mapB at hm
    simp only [Bool.and_eq_true, decide_eq_true_eq] at hm
    exact hm.1
  obtain ⟨⟨ia, ip, oa, op, kn, he, ne⟩, hp⟩ : ∃ c, c = cs[k] := ⟨_, rfl⟩
  obtain ⟨hs1, hs2, hs3⟩ := hsz ⟨ia, ip, oa, op, kn, he, ne⟩ (by rw [hp]; exact List.getElem_mem hk)
  simp only at hs1 hs2 hs3
  have HC : Hid (connB es cs k = (insB ia ip && outB oa op && decide (op = 21) && decide (portI es (ia, ip) ≠ 0) && strB kn.data.toList && strB he.data.toList && (knowB es kn.data.toList && nearB es he.data.toList ne.data.toList) && decide (findCn (cs.take k) ia ip oa op < 0))) := by
    show connB es cs k = _
    unfold connB
    rw [show cs.getD k default = ⟨ia, ip, oa, op, kn, he, ne⟩ from by simp [List.getD, hk, ← hp]]
    rfl
  obtain ⟨Q, hQ⟩ : ∃ Q, Q = connB es cs k := ⟨_, rfl⟩
  rw [← hQ] at HC ⊢
  clear hQ
  have C1 : Hid (∀ w, Calls Tryz.prog 14 #[.agg #[.int .i64 ia, .int .i64 ip]] w fun e w' => e = .returned (.bool (insB ia ip)) ∧ Below w.heap.size w w') := fun w => specInside_any ia ip w
  have C2 : Hid (∀ w, Calls Tryz.prog 85 #[.agg #[.int .i64 oa, .int .i64 op]] w fun e w' => e = .returned (.bool (outB oa op)) ∧ Below w.heap.size w w') := fun w => specOutside_any oa op w
  have C4 : Hid (∀ w, TabAt w (.slice ad es.length capt) es → Calls Tryz.prog 82 #[.agg #[.slice ad es.length capt], .agg #[.int .i64 ia, .int .i64 ip]] w fun e w' => e = .returned (.int .i64 (portI es (ia, ip))) ∧ Below w.heap.size w w') := fun w h => specPort_any _ es ia ip w (by omega) h
  have CS : Hid (∀ (t : ByteArray) w, t.size ≤ 2097152 → Calls Tryz.prog 86 #[.string t] w fun e w' => e = .returned (.bool (strB t.data.toList)) ∧ Below w.heap.size w w') := fun t w h => specStr_any t w h
  have C7 : Hid (∀ w', Below w.heap.size w w' → Calls Tryz.prog 87 #[.agg #[.slice ad es.length capt], .string kn] w' fun e w'' => e = .returned (.bool (knowB es kn.data.toList)) ∧ Below w'.heap.size w' w'') := fun w' h => specKnow_anyG B ad capt es kn w' hm hs1 (Nat.le_trans hB h.size) (own_later ho h)
  have C8 : Hid (∀ w', Below w.heap.size w w' → Calls Tryz.prog 88 #[.agg #[.slice ad es.length capt], .string he, .string ne] w' fun e w'' => e = .returned (.bool (nearB es he.data.toList ne.data.toList)) ∧ Below w'.heap.size w' w'') := fun w' h => specNear_any _ es he ne w' (by omega) hs2 hs3 (OwnTab.tab (own_later ho h))
  have C9 : Hid (∀ w', Below w.heap.size w w' → Calls Tryz.prog 89 #[.slice ac k cc, .agg #[.int .i64 ia, .int .i64 ip], .agg #[.int .i64 oa, .int .i64 op]] w' fun e w'' => e = .returned (.int .i64 (findCn (cs.take k) ia ip oa op)) ∧ Below w'.heap.size w' w'') := fun w' h => specFindCn_any _ (cs.take k) ia ip oa op w' (by rw [List.length_take]; omega) ((hc.below h).take ⟨7, cnC_len⟩ (by omega))
  have HT : Hid (∀ w', Below w.heap.size w w' → TabAt w' (.slice ad es.length capt) es) := fun w' h => OwnTab.tab (own_later ho h)
  obtain ⟨q1, e1⟩ : ∃ q, q = insB ia ip := ⟨_, rfl⟩
  obtain ⟨q2, e2⟩ : ∃ q, q = outB oa op := ⟨_, rfl⟩
  obtain ⟨z4, e4⟩ : ∃ q, q = portI es (ia, ip) := ⟨_, rfl⟩
  obtain ⟨q5, e5⟩ : ∃ q, q = strB kn.data.toList := ⟨_, rfl⟩
  obtain ⟨q6, e6⟩ : ∃ q, q = strB he.data.toList := ⟨_, rfl⟩
  obtain ⟨q7, e7⟩ : ∃ q, q = knowB es kn.data.toList := ⟨_, rfl⟩
  obtain ⟨q8, e8⟩ : ∃ q, q = nearB es he.data.toList ne.data.toList := ⟨_, rfl⟩
  obtain ⟨z9, e9⟩ : ∃ q, q = findCn (cs.take k) ia ip oa op := ⟨_, rfl⟩
  rw [← e1] at C1 HC
  rw [← e2] at C2 HC
  rw [← e4] at C4 HC
  rw [← e5] at HC
  have E5 := e5.symm
  rw [← e6] at HC
  have E6 := e6.symm
  rw [← e7] at C7 HC
  rw [← e8] at C8 HC
  rw [← e9] at C9 HC
  clear e1 e2 e4 e5 e6 e7 e8 e9
  obtain ⟨ax, cx, ex, hcc, hrow⟩ := hc
  simp at ex
  obtain ⟨rfl, rfl⟩ := ex
  obtain ⟨g, rfl, hrw⟩ := hrow (by omega)
  have hgl : g < w.heap.size := hrw.lt (by rw [flatC_len cnC_len]; omega)
  obtain ⟨⟨r0, r1, r2, r3, r4, r5, r6⟩, _⟩ := hrw.conn k hk _ hp
  simp only at r0 r1 r2 r3 r4 r5 r6
  have HR : Hid (∀ o, ((w.alloc o).cell? ⟨g, k * 7, none⟩ = some (.int .i64 ia) ∧ (w.alloc o).cell? ⟨g, k * 7 + 1, none⟩ = some (.int .i64 ip) ∧ (w.alloc o).cell? ⟨g, k * 7 + 2, none⟩ = some (.int .i64 oa) ∧ (w.alloc o).cell? ⟨g, k * 7 + 3, none⟩ = some (.int .i64 op) ∧ (w.alloc o).cell? ⟨g, k * 7 + 4, none⟩ = some (.string kn) ∧ (w.alloc o).cell? ⟨g, k * 7 + 5, none⟩ = some (.string he) ∧ (w.alloc o).cell? ⟨g, k * 7 + 6, none⟩ = some (.string ne))) := fun o =>
    ⟨(cell_alloc_lt hgl).trans r0, (cell_alloc_lt hgl).trans r1, (cell_alloc_lt hgl).trans r2, (cell_alloc_lt hgl).trans r3, (cell_alloc_lt hgl).trans r4, (cell_alloc_lt hgl).trans r5, (cell_alloc_lt hgl).trans r6⟩
  have hk1 : (k : Int) ≤ (cc : Int) := by omega
  have hk2 : (k : Int) < (cs.length : Int) := by omega
  have hk3 : (0 : Int) ≤ (k : Int) := by omega
  clear r0 r1 r2 r3 r4 r5 r6 hrw hrow hp ho hm hs3 hsz
  obtain ⟨W1, hW1⟩ : ∃ W, W = (w.alloc (.cells #[.slice ar nr cr, .slice ad es.length capt, .slice (some ⟨g, 0, none⟩) cs.length cc] 29)).alloc (.cells #[.int .i64 ia, .int .i64 ip, .int .i64 oa, .int .i64 op, .string kn, .string he, .string ne] 49) := ⟨_, rfl⟩
  have hB1 : Below w.heap.size w W1 := by rw [hW1]; exact ((Below.refl _ _).alloc (Nat.le_refl _) _).alloc (by simp) _
  have K1 : Blk W1 w.heap.size 29 [.slice ar nr cr, .slice ad es.length capt, .slice (some ⟨g, 0, none⟩) cs.length cc] := by rw [hW1]; exact (three_new w _ _ _ _).below ((Below.refl _ _).alloc (Nat.le_refl _) _)
  have K2 : Blk W1 (w.heap.size + 1) 49 [.int .i64 ia, .int .i64 ip, .int .i64 oa, .int .i64 op, .string kn, .string he, .string ne] := by
    rw [hW1]
    have := heap_last3 (w.alloc (.cells #[.slice ar nr cr, .slice ad es.length capt, .slice (some ⟨g, 0, none⟩) cs.length cc] 29)) (.cells #[.int .i64 ia, .int .i64 ip, .int .i64 oa, .int .i64 op, .string kn, .string he, .string ne] 49)
    unfold Blk
    simpa using this
  have HF : Hid (∀ w', Below W1.heap.size W1 w' → (w'.cell? ⟨w.heap.size, 1, none⟩ = some (.slice ad es.length capt) ∧ w'.cell? ⟨w.heap.size, 2, none⟩ = some (.slice (some ⟨g, 0, none⟩) cs.length cc)) ∧ (w'.cell? ⟨w.heap.size + 1, 0, none⟩ = some (.int .i64 ia) ∧ w'.cell? ⟨w.heap.size + 1, 1, none⟩ = some (.int .i64 ip) ∧ w'.cell? ⟨w.heap.size + 1, 2, none⟩ = some (.int .i64 oa) ∧ w'.cell? ⟨w.heap.size + 1, 3, none⟩ = some (.int .i64 op) ∧ w'.cell? ⟨w.heap.size + 1, 4, none⟩ = some (.string kn) ∧ w'.cell? ⟨w.heap.size + 1, 5, none⟩ = some (.string he) ∧ w'.cell? ⟨w.heap.size + 1, 6, none⟩ = some (.string ne))) := fun w' h =>
    ⟨(three_all (K1.below h)).1.2, seven_all (K2.below h)⟩
  have HH : Hid (∀ w', Below W1.heap.size W1 w' → Below w.heap.size w w') := fun w' h => hB1.trans (h.mono hB1.size)
  have BB : Hid (Below W1.heap.size W1 W1) := Below.refl _ _
  clear K1 K2 hB1
  subst hW1
  obtain ⟨r0, r1, r2, r3, r4, r5, r6⟩ := HR.out (.cells #[.slice ar nr cr, .slice ad es.length capt, .slice (some ⟨g, 0, none⟩) cs.length cc] 29)
  cases q1
  · have hq : Q = false := by have := HC.out; simpa using this
    subst hq
    clear HC
    go_enter Tryz.func44, Tryz.ntmps44
    go_wp2_with (first
      | (go_at_call 14; refine (C1.out _).mono ?_; rintro e wn ⟨rfl, bn⟩; have BB := Lib.hid (BB.out.trans (bn.mono BB.out.size)); obtain ⟨⟨x1, x2⟩, y0, y1, y2, y3, y4, y5, y6⟩ := HF.out _ BB.out; clear bn)
      | (go_at_call 85; refine (C2.out _).mono ?_; rintro e wn ⟨rfl, bn⟩; have BB := Lib.hid (BB.out.trans (bn.mono BB.out.size)); obtain ⟨⟨x1, x2⟩, y0, y1, y2, y3, y4, y5, y6⟩ := HF.out _ BB.out; clear bn)
      | (go_at_call 82; refine (C4.out _ (HT.out _ (HH.out _ BB.out))).mono ?_; rintro e wn ⟨rfl, bn⟩; have BB := Lib.hid (BB.out.trans (bn.mono BB.out.size)); obtain ⟨⟨x1, x2⟩, y0, y1, y2, y3, y4, y5, y6⟩ := HF.out _ BB.out; clear bn)
      | (go_at_call 86; refine (CS.out _ _ (by assumption)).mono ?_; rintro e wn ⟨hx, bn⟩; (first | rw [E5] at hx | rw [E6] at hx); subst hx; have BB := Lib.hid (BB.out.trans (bn.mono BB.out.size)); obtain ⟨⟨x1, x2⟩, y0, y1, y2, y3, y4, y5, y6⟩ := HF.out _ BB.out; clear bn))
    go_ret
    exact ⟨rfl, HH.out _ BB.out⟩
  cases q2
  · have hq : Q = false := by have := HC.out; simpa using this
    subst hq
    clear HC
    go_enter Tryz.func44, Tryz.ntmps44
    go_wp2_with (first
      | (go_at_call 14; refine (C1.out _).mono ?_; rintro e wn ⟨rfl, bn⟩; have BB := Lib.hid (BB.out.trans (bn.mono BB.out.size)); obtain ⟨⟨x1, x2⟩, y0, y1, y2, y3, y4, y5, y6⟩ := HF.out _ BB.out; clear bn)
      | (go_at_call 85; refine (C2.out _).mono ?_; rintro e wn ⟨rfl, bn⟩; have BB := Lib.hid (BB.out.trans (bn.mono BB.out.size)); obtain ⟨⟨x1, x2⟩, y0, y1, y2, y3, y4, y5, y6⟩ := HF.out _ BB.out; clear bn)
      | (go_at_call 82; refine (C4.out _ (HT.out _ (HH.out _ BB.out))).mono ?_; rintro e wn ⟨rfl, bn⟩; have BB := Lib.hid (BB.out.trans (bn.mono BB.out.size)); obtain ⟨⟨x1, x2⟩, y0, y1, y2, y3, y4, y5, y6⟩ := HF.out _ BB.out; clear bn)
      | (go_at_call 86; refine (CS.out _ _ (by assumption)).mono ?_; rintro e wn ⟨hx, bn⟩; (first | rw [E5] at hx | rw [E6] at hx); subst hx; have BB := Lib.hid (BB.out.trans (bn.mono BB.out.size)); obtain ⟨⟨x1, x2⟩, y0, y1, y2, y3, y4, y5, y6⟩ := HF.out _ BB.out; clear bn))
    go_ret
    exact ⟨rfl, HH.out _ BB.out⟩
  by_cases h3 : op = 21
  rotate_left
  · have hq : Q = false := by have := HC.out; simpa [h3] using this
    subst hq
    clear HC
    go_enter Tryz.func44, Tryz.ntmps44
    go_wp2_with (first
      | (go_at_call 14; refine (C1.out _).mono ?_; rintro e wn ⟨rfl, bn⟩; have BB := Lib.hid (BB.out.trans (bn.mono BB.out.size)); obtain ⟨⟨x1, x2⟩, y0, y1, y2, y3, y4, y5, y6⟩ := HF.out _ BB.out; clear bn)
      | (go_at_call 85; refine (C2.out _).mono ?_; rintro e wn ⟨rfl, bn⟩; have BB := Lib.hid (BB.out.trans (bn.mono BB.out.size)); obtain ⟨⟨x1, x2⟩, y0, y1, y2, y3, y4, y5, y6⟩ := HF.out _ BB.out; clear bn)
      | (go_at_call 82; refine (C4.out _ (HT.out _ (HH.out _ BB.out))).mono ?_; rintro e wn ⟨rfl, bn⟩; have BB := Lib.hid (BB.out.trans (bn.mono BB.out.size)); obtain ⟨⟨x1, x2⟩, y0, y1, y2, y3, y4, y5, y6⟩ := HF.out _ BB.out; clear bn)
      | (go_at_call 86; refine (CS.out _ _ (by assumption)).mono ?_; rintro e wn ⟨hx, bn⟩; (first | rw [E5] at hx | rw [E6] at hx); subst hx; have BB := Lib.hid (BB.out.trans (bn.mono BB.out.size)); obtain ⟨⟨x1, x2⟩, y0, y1, y2, y3, y4, y5, y6⟩ := HF.out _ BB.out; clear bn))
    go_ret
    exact ⟨rfl, HH.out _ BB.out⟩
  subst h3
  by_cases h4 : z4 = 0
  · have hq : Q = false := by have := HC.out; simpa [h4] using this
    subst h4
    subst hq
    clear HC
    go_enter Tryz.func44, Tryz.ntmps44
    go_wp2_with (first
      | (go_at_call 14; refine (C1.out _).mono ?_; rintro e wn ⟨rfl, bn⟩; have BB := Lib.hid (BB.out.trans (bn.mono BB.out.size)); obtain ⟨⟨x1, x2⟩, y0, y1, y2, y3, y4, y5, y6⟩ := HF.out _ BB.out; clear bn)
      | (go_at_call 85; refine (C2.out _).mono ?_; rintro e wn ⟨rfl, bn⟩; have BB := Lib.hid (BB.out.trans (bn.mono BB.out.size)); obtain ⟨⟨x1, x2⟩, y0, y1, y2, y3, y4, y5, y6⟩ := HF.out _ BB.out; clear bn)
      | (go_at_call 82; refine (C4.out _ (HT.out _ (HH.out _ BB.out))).mono ?_; rintro e wn ⟨rfl, bn⟩; have BB := Lib.hid (BB.out.trans (bn.mono BB.out.size)); obtain ⟨⟨x1, x2⟩, y0, y1, y2, y3, y4, y5, y6⟩ := HF.out _ BB.out; clear bn)
      | (go_at_call 86; refine (CS.out _ _ (by assumption)).mono ?_; rintro e wn ⟨hx, bn⟩; (first | rw [E5] at hx | rw [E6] at hx); subst hx; have BB := Lib.hid (BB.out.trans (bn.mono BB.out.size)); obtain ⟨⟨x1, x2⟩, y0, y1, y2, y3, y4, y5, y6⟩ := HF.out _ BB.out; clear bn))
    go_ret
    exact ⟨rfl, HH.out _ BB.out⟩
  cases q5
  · have hq : Q = false := by have := HC.out; simpa using this
    subst hq
    clear HC
    go_enter Tryz.func44, Tryz.ntmps44
    go_wp2_with (first
      | (go_at_call 14; refine (C1.out _).mono ?_; rintro e wn ⟨rfl, bn⟩; have BB := Lib.hid (BB.out.trans (bn.mono BB.out.size)); obtain ⟨⟨x1, x2⟩, y0, y1, y2, y3, y4, y5, y6⟩ := HF.out _ BB.out; clear bn)
      | (go_at_call 85; refine (C2.out _).mono ?_; rintro e wn ⟨rfl, bn⟩; have BB := Lib.hid (BB.out.trans (bn.mono BB.out.size)); obtain ⟨⟨x1, x2⟩, y0, y1, y2, y3, y4, y5, y6⟩ := HF.out _ BB.out; clear bn)
      | (go_at_call 82; refine (C4.out _ (HT.out _ (HH.out _ BB.out))).mono ?_; rintro e wn ⟨rfl, bn⟩; have BB := Lib.hid (BB.out.trans (bn.mono BB.out.size)); obtain ⟨⟨x1, x2⟩, y0, y1, y2, y3, y4, y5, y6⟩ := HF.out _ BB.out; clear bn)
      | (go_at_call 86; refine (CS.out _ _ (by assumption)).mono ?_; rintro e wn ⟨hx, bn⟩; (first | rw [E5] at hx | rw [E6] at hx); subst hx; have BB := Lib.hid (BB.out.trans (bn.mono BB.out.size)); obtain ⟨⟨x1, x2⟩, y0, y1, y2, y3, y4, y5, y6⟩ := HF.out _ BB.out; clear bn))
    go_ret
    exact ⟨rfl, HH.out _ BB.out⟩
  cases q6
  · have hq : Q = false := by have := HC.out; simpa using this
    subst hq
    clear HC
    go_enter Tryz.func44, Tryz.ntmps44
    go_wp2_with (first
      | (go_at_call 14; refine (C1.out _).mono ?_; rintro e wn ⟨rfl, bn⟩; have BB := Lib.hid (BB.out.trans (bn.mono BB.out.size)); obtain ⟨⟨x1, x2⟩, y0, y1, y2, y3, y4, y5, y6⟩ := HF.out _ BB.out; clear bn)
      | (go_at_call 85; refine (C2.out _).mono ?_; rintro e wn ⟨rfl, bn⟩; have BB := Lib.hid (BB.out.trans (bn.mono BB.out.size)); obtain ⟨⟨x1, x2⟩, y0, y1, y2, y3, y4, y5, y6⟩ := HF.out _ BB.out; clear bn)
      | (go_at_call 82; refine (C4.out _ (HT.out _ (HH.out _ BB.out))).mono ?_; rintro e wn ⟨rfl, bn⟩; have BB := Lib.hid (BB.out.trans (bn.mono BB.out.size)); obtain ⟨⟨x1, x2⟩, y0, y1, y2, y3, y4, y5, y6⟩ := HF.out _ BB.out; clear bn)
      | (go_at_call 86; refine (CS.out _ _ (by assumption)).mono ?_; rintro e wn ⟨hx, bn⟩; (first | rw [E5] at hx | rw [E6] at hx); subst hx; have BB := Lib.hid (BB.out.trans (bn.mono BB.out.size)); obtain ⟨⟨x1, x2⟩, y0, y1, y2, y3, y4, y5, y6⟩ := HF.out _ BB.out; clear bn))
    go_ret
    exact ⟨rfl, HH.out _ BB.out⟩
  have HC2 : Hid (Q = ((q7 && q8) && decide (z9 < 0))) := by
    show Q = _
    have := HC.out
    rw [decide_eq_true h4] at this
    simpa using this
  clear HC
  go_enter Tryz.func44, Tryz.ntmps44
  go_wp2_with (first
      | (go_at_call 14; refine (C1.out _).mono ?_; rintro e wn ⟨rfl, bn⟩; have BB := Lib.hid (BB.out.trans (bn.mono BB.out.size)); obtain ⟨⟨x1, x2⟩, y0, y1, y2, y3, y4, y5, y6⟩ := HF.out _ BB.out; clear bn)
      | (go_at_call 85; refine (C2.out _).mono ?_; rintro e wn ⟨rfl, bn⟩; have BB := Lib.hid (BB.out.trans (bn.mono BB.out.size)); obtain ⟨⟨x1, x2⟩, y0, y1, y2, y3, y4, y5, y6⟩ := HF.out _ BB.out; clear bn)
      | (go_at_call 82; refine (C4.out _ (HT.out _ (HH.out _ BB.out))).mono ?_; rintro e wn ⟨rfl, bn⟩; have BB := Lib.hid (BB.out.trans (bn.mono BB.out.size)); obtain ⟨⟨x1, x2⟩, y0, y1, y2, y3, y4, y5, y6⟩ := HF.out _ BB.out; clear bn)
      | (go_at_call 86; refine (CS.out _ _ (by assumption)).mono ?_; rintro e wn ⟨hx, bn⟩; (first | rw [E5] at hx | rw [E6] at hx); subst hx; have BB := Lib.hid (BB.out.trans (bn.mono BB.out.size)); obtain ⟨⟨x1, x2⟩, y0, y1, y2, y3, y4, y5, y6⟩ := HF.out _ BB.out; clear bn))
  have X1 := cell_regrown x1
  have X2 := cell_regrown x2
  have Y0 := cell_regrown y0
  have Y1 := cell_regrown y1
  have Y2 := cell_regrown y2
  have Y3 := cell_regrown y3
  have Y4 := cell_regrown y4
  have Y5 := cell_regrown y5
  have Y6 := cell_regrown y6
  have HN := Lib.hid (HH.out _ BB.out)
  have hGB : ∀ d os, Below w.heap.size w (grow (redrawn wn d) os) := fun d os => HN.out.trans ((below_regrown wn d os).mono HN.out.size)
  have c7 : ∀ d os, Calls Tryz.prog 87 #[.agg #[.slice ad es.length capt], .string kn] (grow (redrawn wn d) os) fun e w'' => e = .returned (.bool q7) ∧ ∃ q : Regrown, w'' = grow (redrawn wn q.d) q.os := fun d os => Calls.regrown_of (C7.out _ (hGB d os))
  have c8 : ∀ d os, Calls Tryz.prog 88 #[.agg #[.slice ad es.length capt], .string he, .string ne] (grow (redrawn wn d) os) fun e w'' => e = .returned (.bool q8) ∧ ∃ q : Regrown, w'' = grow (redrawn wn q.d) q.os := fun d os => Calls.regrown_of (C8.out _ (hGB d os))
  have c9 : ∀ d os, Calls Tryz.prog 89 #[.slice (some ⟨g, 0, none⟩) k cc, .agg #[.int .i64 ia, .int .i64 ip], .agg #[.int .i64 oa, .int .i64 21]] (grow (redrawn wn d) os) fun e w'' => e = .returned (.int .i64 z9) ∧ ∃ q : Regrown, w'' = grow (redrawn wn q.d) q.os := fun d os => Calls.regrown_of (C9.out _ (hGB d os))
  clear x1 x2 y0 y1 y2 y3 y4 y5 y6 r0 r1 r2 r3 r4 r5 r6 hGB HF HH C1 C2 CS C4 C7 C8 C9 HT HR E5 E6 BB hs1 hs2 h4
  cases q7
  rotate_left
  cases q8
  rotate_left
  by_cases h9 : z9 < 0
  · have hq : Q = true := by have := HC2.out; simpa [h9] using this
    have h9' : decide (z9 < 0) = true := decide_eq_true h9
    subst hq
    clear HC2
    go_wp2_with fail
    refine wp_region_quiet_below (by kernel_rfl) (by kernel_rfl) ?_
    repeat (first | go_big_quiet_skip | quiet_step (first | exact c7 _ _ | exact c8 _ _ | exact c9 _ _))
    refine wpQuiet_nil ?_
    intro _ hw'
    obtain ⟨⟨dq, osq⟩, hw''⟩ := hw'
    subst hw''
    go_wp2
    go_ret
    exact ⟨rfl, HN.out.trans ((below_regrown wn dq osq).mono HN.out.size)⟩
  · have hq : Q = false := by have := HC2.out; simpa [h9] using this
    have h9' : decide (z9 < 0) = false := decide_eq_false h9
    subst hq
    clear HC2
    go_wp2_with fail
    refine wp_region_quiet_below (by kernel_rfl) (by kernel_rfl) ?_
    repeat (first | go_big_quiet_skip | quiet_step (first | exact c7 _ _ | exact c8 _ _ | exact c9 _ _))
    refine wpQuiet_nil ?_
    intro _ hw'
    obtain ⟨⟨dq, osq⟩, hw''⟩ := hw'
    subst hw''
    go_wp2
    go_ret
    exact ⟨rfl, HN.out.trans ((below_regrown wn dq osq).mono HN.out.size)⟩
  all_goals
    have hq : Q = false := by have := HC2.out; simpa using this
    subst hq
    clear HC2
    go_wp2_with fail
    refine wp_region_quiet_below (by kernel_rfl) (by kernel_rfl) ?_
    repeat (first | go_big_quiet_skip | quiet_step (first | exact c7 _ _ | exact c8 _ _ | exact c9 _ _))
    refine wpQuiet_nil ?_
    intro _ hw'
    obtain ⟨⟨dq, osq⟩, hw''⟩ := hw'
    subst hw''
    go_wp2
    go_ret
    exact ⟨rfl, HN.out.trans ((below_regrown wn dq osq).mono HN.out.size)⟩

end Go.Proofs.YtgfkiljkpkfapaaGreatDoor

/- BoxOk of the specification, at a box whose lists lie at any address. Conditions: at most 2^20 rules, ends and streams each. -/
namespace Go.Proofs.YtgfkiljkpkfapaaGreatDoor
open Go.RowKit Go.Sort

set_option maxRecDepth 100000 in
set_option maxHeartbeats 3200000 in
theorem specBoxOk_anyG (B : Nat) (v : Value) (b : Bx) (w : World) (hs : bxSz b) (hB : B ≤ w.heap.size) (ho : GBx w B v b) :
    Calls Tryz.prog 10 #[v] w fun e w' => e = .returned (.bool (boxOkB b)) ∧ Below w.heap.size w w' := by
  obtain ⟨a1, c1, a2, c2, a3, c3, rfl, o1, o2, o3⟩ := ho
  obtain ⟨m1, m2, m3, m4⟩ := hs
  obtain ⟨W0, hW0⟩ : ∃ W, W = w.alloc (.cells #[.slice a1 b.rs.length c1, .slice a2 b.es.length c2, .slice a3 b.cs.length c3] 29) := ⟨_, rfl⟩
  have hA : Below w.heap.size w W0 := by rw [hW0]; exact (Below.refl _ _).alloc (Nat.le_refl _) _
  have K1 : Blk W0 w.heap.size 29 [.slice a1 b.rs.length c1, .slice a2 b.es.length c2, .slice a3 b.cs.length c3] := by rw [hW0]; exact three_new w _ _ _ _
  have KK : Hid (∀ w', Below W0.heap.size W0 w' → w'.cell? ⟨w.heap.size, 0, none⟩ = some (.slice a1 b.rs.length c1) ∧ w'.cell? ⟨w.heap.size, 1, none⟩ = some (.slice a2 b.es.length c2) ∧ w'.cell? ⟨w.heap.size, 2, none⟩ = some (.slice a3 b.cs.length c3)) := fun w' h => (three_all (K1.below h)).1
  have HA : Hid (∀ w', Below W0.heap.size W0 w' → Below w.heap.size w w') := fun w' h => hA.trans (h.mono hA.size)
  have HM : Hid (∀ w', Below w.heap.size w w' → Calls Tryz.prog 42 #[.agg #[.slice a2 b.es.length c2]] w' fun e w'' => e = .returned (.bool (mapB b.es)) ∧ Below w'.heap.size w' w'') := fun w' h => specMapOk_any _ b.es w' (by omega) (OwnTab.tab (own_later o2 h))
  have HR : Hid (∀ w', Below w.heap.size w w' → Calls Tryz.prog 43 #[.slice a1 b.rs.length c1] w' fun e w'' => e = .returned (.bool (rulesB b.rs)) ∧ Below w'.heap.size w' w'') := fun w' h => specRules_any _ b.rs w' (by omega) (o1.below h)
  have HC : Hid (mapB b.es = true → ∀ k, k < b.cs.length → ∀ w', Below w.heap.size w w' → Calls Tryz.prog 44 #[.agg #[.slice a1 b.rs.length c1, .slice a2 b.es.length c2, .slice a3 b.cs.length c3], .int .i64 k] w' fun e w'' => e = .returned (.bool (connB b.es b.cs k)) ∧ Below w'.heap.size w' w'') := fun hm k hk w' h =>
    specConn_anyG B _ _ _ _ c2 b.es _ _ b.cs k w' hm (Nat.le_trans hB h.size) (own_later o2 h) (o3.below h) hk (by omega) (cnSz_of m4)
  have HQ : Hid (boxOkB b = (mapB b.es && rulesB b.rs && decide (b.cs.length ≤ 3) && (List.range b.cs.length).all (connB b.es b.cs))) := rfl
  obtain ⟨Q, hQ⟩ : ∃ Q, Q = boxOkB b := ⟨_, rfl⟩
  obtain ⟨q1, e1⟩ : ∃ q, q = mapB b.es := ⟨_, rfl⟩
  obtain ⟨q2, e2⟩ : ∃ q, q = rulesB b.rs := ⟨_, rfl⟩
  obtain ⟨P, hP⟩ : ∃ P, P = connB b.es b.cs := ⟨_, rfl⟩
  obtain ⟨n1, hn1⟩ : ∃ n, n = b.rs.length := ⟨_, rfl⟩
  obtain ⟨n2, hn2⟩ : ∃ n, n = b.es.length := ⟨_, rfl⟩
  obtain ⟨n3, hn3⟩ : ∃ n, n = b.cs.length := ⟨_, rfl⟩
  rw [← hQ] at HQ ⊢
  rw [← e1] at HM HC HQ
  rw [← e2] at HR HQ
  rw [← hP] at HC HQ
  rw [← hn1] at KK HR HC hW0 ⊢
  rw [← hn2] at KK HM HC hW0 ⊢
  rw [← hn3] at KK HC HQ hW0 m3 ⊢
  have BB : Hid (Below W0.heap.size W0 W0) := Below.refl _ _
  clear hQ e1 e2 hP hn1 hn2 hn3 o1 o2 o3 m1 m2 m4 K1 hA hB
  subst hW0
  cases q1
  · have hq : Q = false := by have := HQ.out; simpa using this
    subst hq
    clear HQ HC
    go_enter Tryz.func10, Tryz.ntmps10
    go_wp2_with fail
    (go_at_call 42; refine (HM.out _ (HA.out _ BB.out)).mono ?_; rintro e w1 ⟨rfl, b1⟩)
    go_wp2_with fail
    go_ret
    exact ⟨rfl, HA.out _ b1⟩
  have HC2 := Lib.hid (HC.out rfl)
  clear HC
  cases q2
  · have hq : Q = false := by have := HQ.out; simpa using this
    subst hq
    clear HQ HC2
    go_enter Tryz.func10, Tryz.ntmps10
    go_wp2_with fail
    (go_at_call 42; refine (HM.out _ (HA.out _ BB.out)).mono ?_; rintro e w1 ⟨rfl, b1⟩)
    obtain ⟨k0, k1, k2⟩ := KK.out _ b1
    have B1 := Lib.hid b1
    clear b1
    go_wp2_with fail
    (go_at_call 43; refine (HR.out _ (HA.out _ B1.out)).mono ?_; rintro e w2 ⟨rfl, b2⟩)
    go_wp2_with fail
    go_ret
    exact ⟨rfl, HA.out _ (B1.out.trans (b2.mono B1.out.size))⟩
  by_cases h3 : 3 < n3
  · have hq : Q = false := by have := HQ.out; simpa [show ¬ n3 ≤ 3 by omega] using this
    subst hq
    clear HQ HC2
    go_enter Tryz.func10, Tryz.ntmps10
    go_wp2_with fail
    (go_at_call 42; refine (HM.out _ (HA.out _ BB.out)).mono ?_; rintro e w1 ⟨rfl, b1⟩)
    obtain ⟨k0, k1, k2⟩ := KK.out _ b1
    have B1 := Lib.hid b1
    clear b1
    go_wp2_with fail
    (go_at_call 43; refine (HR.out _ (HA.out _ B1.out)).mono ?_; rintro e w2 ⟨rfl, b2⟩)
    have B2 := Lib.hid (B1.out.trans (b2.mono B1.out.size))
    obtain ⟨k0', k1', k2'⟩ := KK.out _ B2.out
    clear b2
    go_wp2_with fail
    go_ret
    exact ⟨rfl, HA.out _ B2.out⟩
  have HQ2 : Hid (Q = (List.range n3).all P) := by
    show Q = _
    have := HQ.out
    rw [decide_eq_true (by omega : n3 ≤ 3)] at this
    simpa using this
  clear HQ
  go_enter Tryz.func10, Tryz.ntmps10
  go_wp2_with fail
  (go_at_call 42; refine (HM.out _ (HA.out _ BB.out)).mono ?_; rintro e w1 ⟨rfl, b1⟩)
  obtain ⟨k0, k1, k2⟩ := KK.out _ b1
  have B1 := Lib.hid b1
  clear b1
  go_wp2_with fail
  (go_at_call 43; refine (HR.out _ (HA.out _ B1.out)).mono ?_; rintro e w2 ⟨rfl, b2⟩)
  have B2 := Lib.hid (B1.out.trans (b2.mono B1.out.size))
  obtain ⟨k0', k1', k2'⟩ := KK.out _ B2.out
  clear b2 k0 k1 k2
  go_wp2_with fail
  clear k0' k1' k2'
  go_loopw [3] (fun i wr => ∃ k : Nat, k ≤ n3 ∧ i = .int .i64 k ∧ Hid (∀ j, j < k → P j = true) ∧ Hid (Below (w.alloc (.cells #[.slice a1 n1 c1, .slice a2 n2 c2, .slice a3 n3 c3] 29)).heap.size (w.alloc (.cells #[.slice a1 n1 c1, .slice a2 n2 c2, .slice a3 n3 c3] 29)) wr)) (fun i _ => n3 - (intOf i).toNat)
  case atStart => exact ⟨0, Nat.zero_le _, rfl, fun j hj => by omega, B2⟩
  case round =>
    obtain ⟨k, hk, rfl, HD, HB⟩ := hrel
    obtain ⟨k0, k1, k2⟩ := KK.out _ HB.out
    by_cases hlt : k < n3
    · cases hp : P k
      · have HF : Hid (Q = false) := HQ2.out.trans (all_no hlt hp)
        have HK : Hid (∀ w', Below w.heap.size w w' → Calls Tryz.prog 44 #[.agg #[.slice a1 n1 c1, .slice a2 n2 c2, .slice a3 n3 c3], .int .i64 k] w' fun e w'' => e = .returned (.bool false) ∧ Below w'.heap.size w' w'') := fun w' h => by have := HC2.out k hlt w' h; rwa [hp] at this
        clear hp HQ2
        go_wp2_with (go_at_call 44; refine (HK.out _ (HA.out _ HB.out)).mono ?_; rintro e w3 ⟨rfl, b3⟩)
        go_ret
        exact ⟨ret_bool HF.out.symm, HA.out _ (HB.out.trans (b3.mono HB.out.size))⟩
      · have HN : Hid (∀ j, j < k + 1 → P j = true) := fun j hj => by
          by_cases e : j = k
          · subst e; exact hp
          · exact HD.out j (by omega)
        have HK : Hid (∀ w', Below w.heap.size w w' → Calls Tryz.prog 44 #[.agg #[.slice a1 n1 c1, .slice a2 n2 c2, .slice a3 n3 c3], .int .i64 k] w' fun e w'' => e = .returned (.bool true) ∧ Below w'.heap.size w' w'') := fun w' h => by have := HC2.out k hlt w' h; rwa [hp] at this
        clear hp HQ2
        go_wp2_with (go_at_call 44; refine (HK.out _ (HA.out _ HB.out)).mono ?_; rintro e w3 ⟨rfl, b3⟩)
        go_roundw
        case rel => exact ⟨k + 1, by omega, by go_num, HN, HB.out.trans (b3.mono HB.out.size)⟩
        case measure => simp [intOf]; omega
    · have HT : Hid (Q = true) := HQ2.out.trans (all_yes fun j hj => HD.out j (by omega))
      have hkn : k = n3 := by omega
      clear HQ2 HD
      go_wp2
      go_ret
      exact ⟨ret_bool HT.out.symm, HA.out _ HB.out⟩

end Go.Proofs.YtgfkiljkpkfapaaGreatDoor

/- A box that is ok, in memory of its own; what is not ok becomes nothing. Condition: at most 2^20 rules, ends and streams each. -/
namespace Go.Proofs.YtgfkiljkpkfapaaGreatDoor
open Go.RowKit Go.Sort

set_option maxRecDepth 100000 in
set_option maxHeartbeats 3200000 in
theorem specSame_yesG (B : Nat) (v : Value) (b : Bx) (w : World) (hs : bxSz b) (hB : B ≤ w.heap.size) (ho : GBx w B v b) (hok : boxOkB b = true) :
    Calls Tryz.prog 36 #[v] w fun e w' => ∃ u, e = .returned u ∧ OwB w' w.heap.size u b ∧ Below w.heap.size w w' := by
  have HO : Hid (∀ w', Below w.heap.size w w' → Calls Tryz.prog 10 #[v] w' fun e w'' => e = .returned (.bool true) ∧ Below w'.heap.size w' w'') := fun w' h => by
    rw [← hok]
    exact specBoxOk_anyG B v b w' hs (Nat.le_trans hB h.size) (ho.later h)
  have HC : Hid (∀ w', Below w.heap.size w w' → Calls Tryz.prog 37 #[v] w' fun e w'' => ∃ u, e = .returned u ∧ OwB w'' w'.heap.size u b ∧ Below w'.heap.size w' w'') := fun w' h => specCopy7_anyG B v b w' hs (ho.later h)
  obtain ⟨a1, c1, a2, c2, a3, c3, rfl, o1, o2, o3⟩ := ho
  clear o1 o2 o3 hok hs hB
  have BN : Hid (Below w.heap.size w ((w.alloc (.cells #[.slice a1 b.rs.length c1, .slice a2 b.es.length c2, .slice a3 b.cs.length c3] 29)).alloc (.cells #[.slice none 0 0, .slice none 0 0, .slice none 0 0] 29))) := ((Below.refl _ _).alloc (Nat.le_refl _) _).alloc (by simp) _
  have KM : Hid (Blk ((w.alloc (.cells #[.slice a1 b.rs.length c1, .slice a2 b.es.length c2, .slice a3 b.cs.length c3] 29)).alloc (.cells #[.slice none 0 0, .slice none 0 0, .slice none 0 0] 29)) w.heap.size 29 [.slice a1 b.rs.length c1, .slice a2 b.es.length c2, .slice a3 b.cs.length c3]) :=
    (three_new w _ _ _ _).below ((Below.refl _ _).alloc (Nat.le_refl _) _)
  have KN : Hid (Blk ((w.alloc (.cells #[.slice a1 b.rs.length c1, .slice a2 b.es.length c2, .slice a3 b.cs.length c3] 29)).alloc (.cells #[.slice none 0 0, .slice none 0 0, .slice none 0 0] 29)) (w.heap.size + 1) 29 [.slice none 0 0, .slice none 0 0, .slice none 0 0]) := by
    have h := three_new (w.alloc (.cells #[.slice a1 b.rs.length c1, .slice a2 b.es.length c2, .slice a3 b.cs.length c3] 29)) (.slice none 0 0) (.slice none 0 0) (.slice none 0 0) 29
    show Blk _ _ _ _
    simpa using h
  go_enter Tryz.func36, Tryz.ntmps36
  go_wp2_with (go_at_call 10; refine (HO.out _ BN.out).mono ?_; rintro e w1 ⟨rfl, b1⟩; have B1 : Hid (Below w.heap.size w w1) := BN.out.trans (b1.mono BN.out.size); have K1 := Lib.hid (KN.out.below b1); obtain ⟨⟨p0, p1, p2⟩, -⟩ := three_all (KM.out.below b1); clear b1)
  (go_at_call 37; refine (HC.out _ B1.out).mono ?_; rintro e w2 ⟨u, rfl, oU, bU⟩; obtain ⟨x1, d1, x2, d2, x3, d3, rfl, m1, m2, m3⟩ := oU)
  have OU : Hid (OwB w2 w1.heap.size (.agg #[.slice (some x1) b.rs.length d1, .slice (some x2) b.es.length d2, .slice (some x3) b.cs.length d3]) b) := ⟨_, _, _, _, _, _, rfl, m1, m2, m3⟩
  have K2 := Lib.hid (K1.out.below bU)
  have B2 : Hid (Below w.heap.size w w2) := B1.out.trans (bU.mono B1.out.size)
  have hl : w.heap.size + 1 < w1.heap.size := K1.out.lt
  clear m1 m2 m3 bU p0 p1 p2
  obtain ⟨⟨r0, r1, r2⟩, f0, f1, f2⟩ := three_all K2.out
  go_wp2_with fail
  obtain ⟨⟨y0, y1, y2⟩, -⟩ := three_all (three_set K2.out (.slice (some x1) b.rs.length d1) (.slice (some x2) b.es.length d2) (.slice (some x3) b.cs.length d3))
  refine bodyPost_ret (v := .agg #[.slice (some x1) b.rs.length d1, .slice (some x2) b.es.length d2, .slice (some x3) b.cs.length d3]) (by simp [results, Tryz.results36, go_sem, y0, y1, y2]) rfl ⟨_, rfl, ?_, ((B2.out.setCell (by simp) _).setCell (by simp) _).setCell (by simp) _⟩
  exact (((OU.out.setCell (a := ⟨w.heap.size + 1, 0, none⟩) hl _).setCell (a := ⟨w.heap.size + 1, 1, none⟩) hl _).setCell (a := ⟨w.heap.size + 1, 2, none⟩) hl _).base (by omega)

/-- A box in memory of the call's own; its lists at any address, or nil. -/
def OwG (w : World) (B : Nat) (v : Value) (b : Bx) : Prop := ∃ a1 c1 a2 c2 a3 c3, v = .agg #[.slice a1 b.rs.length c1, .slice a2 b.es.length c2, .slice a3 b.cs.length c3] ∧
  OwnRl w B (.slice a1 b.rs.length c1) b.rs ∧ OwnTab w B (.slice a2 b.es.length c2) b.es ∧ OwnCn w B (.slice a3 b.cs.length c3) b.cs
theorem OwG.gen {w : World} {B : Nat} {v : Value} {b : Bx} (h : OwG w B v b) : GBx w B v b := by
  obtain ⟨a1, c1, a2, c2, a3, c3, rfl, h1, h2, h3⟩ := h
  exact ⟨_, _, _, _, _, _, rfl, OwnRl.rd h1, h2, OwnCn.rd h3⟩
theorem OwB.own {w : World} {B : Nat} {v : Value} {b : Bx} (h : OwB w B v b) : OwG w B v b := by
  obtain ⟨x1, c1, x2, c2, x3, c3, rfl, h1, h2, h3⟩ := h
  exact ⟨_, _, _, _, _, _, rfl, h1, ends_own h2, h3⟩
theorem OwG.later {w w' : World} {B : Nat} {v : Value} {b : Bx} (h : OwG w B v b) (hb : Below w.heap.size w w') : OwG w' B v b := by
  obtain ⟨a1, c1, a2, c2, a3, c3, rfl, h1, h2, h3⟩ := h
  exact ⟨a1, c1, a2, c2, a3, c3, rfl, own_later h1 hb, own_later h2 hb, own_later h3 hb⟩
theorem own_monoG {w : World} {B B' n k : Nat} {t : TypeId} {v : Value} {xs : List Value} (h : w.ownsRow B t k v n xs) (hB : B' ≤ B) : w.ownsRow B' t k v n xs :=
  ⟨h.1, h.2.imp id (fun ⟨g, cap, cur, e, hb, r⟩ => ⟨g, cap, cur, e, Nat.le_trans hB hb, r⟩)⟩
theorem OwG.mono {w : World} {B B' : Nat} {v : Value} {b : Bx} (h : OwG w B v b) (hB : B' ≤ B) : OwG w B' v b := by
  obtain ⟨a1, c1, a2, c2, a3, c3, rfl, h1, h2, h3⟩ := h
  exact ⟨a1, c1, a2, c2, a3, c3, rfl, own_monoG h1 hB, own_monoG h2 hB, own_monoG h3 hB⟩
theorem own_nilG (w : World) (B : Nat) (t : TypeId) (k : Nat) : w.ownsRow B t k (.slice none 0 0) 0 [] := ⟨by simp, .inl ⟨rfl, rfl⟩⟩
theorem OwG.nil (w : World) (B : Nat) : OwG w B (.agg #[.slice none 0 0, .slice none 0 0, .slice none 0 0]) ⟨[], [], []⟩ := ⟨none, 0, none, 0, none, 0, rfl, own_nilG _ _ _ _, own_nilG _ _ _ _, own_nilG _ _ _ _⟩
theorem bxSz_nil : bxSz ⟨[], [], []⟩ := ⟨by simp, by simp, by simp, by intro c hc; cases hc⟩

end Go.Proofs.YtgfkiljkpkfapaaGreatDoor

/- Segments in memory. No condition. -/
namespace Go.Proofs.YtgfkiljkpkfapaaGreatDoor
open Go.RowKit

/-- The cells of a segment. -/
def sgC (s : Sg) : List Value := [.int .i64 s.sa, .int .i64 s.sp, .int .i64 s.da, .int .i64 s.dp, .int .i64 s.seq, .int .i64 s.ack, .string ⟨s.data.toArray⟩]
theorem sgC_len (s : Sg) : (sgC s).length = 7 := rfl
theorem infoSeg : (Tryz.prog.info? 33).map (fun i => (i.zero, i.size, i.bytes)) = some (some (.agg #[.int .i64 0, .int .i64 0, .int .i64 0, .int .i64 0, .int .i64 0, .int .i64 0, .string ⟨#[]⟩]), 7, 64) := by kernel_rfl
/-- A list of segments of the call's own. -/
def OwnSg (w : World) (B : Nat) (v : Value) (xs : List Sg) : Prop := w.ownsRow B 33 7 v xs.length (flatC sgC xs)
def RdSg (w : World) (v : Value) (xs : List Sg) : Prop := RdC sgC w v xs
theorem OwnSg.rd {w : World} {B : Nat} {v : Value} {xs : List Sg} (h : OwnSg w B v xs) : RdSg w v xs := RdC.of_own sgC_len (by decide) h
theorem RdSg.below {w w' : World} {v : Value} {xs : List Sg} (h : RdSg w v xs) (hb : Below w.heap.size w w') : RdSg w' v xs := RdC.below sgC_len (by decide) h hb
theorem OwnSg.below {w w' : World} {B : Nat} {v : Value} {xs : List Sg} (h : OwnSg w B v xs) (hb : Below w.heap.size w w') : OwnSg w' B v xs := by
  refine ⟨h.1, ?_⟩
  rcases h.2 with h2 | ⟨g, cap, cur, hv, hB, hg, h2, h3, hs, ht⟩
  · exact Or.inl h2
  · exact Or.inr ⟨g, cap, cur, hv, hB, (hb.block g (Array.getElem?_eq_some_iff.1 hg).1).trans hg, h2, h3, hs, ht⟩
theorem OwnSg.mono {w : World} {B B' : Nat} {v : Value} {xs : List Sg} (h : OwnSg w B v xs) (hB : B' ≤ B) : OwnSg w B' v xs := by
  refine ⟨h.1, ?_⟩
  rcases h.2 with h2 | ⟨g, cap, cur, hv, hb, r⟩
  · exact Or.inl h2
  · exact Or.inr ⟨g, cap, cur, hv, by omega, r⟩
theorem OwnSg.form {w : World} {B : Nat} {v : Value} {xs : List Sg} (h : OwnSg w B v xs) : ∃ a cap, v = .slice a xs.length cap := by
  obtain ⟨a, cap, e, _⟩ := h.rd
  exact ⟨a, cap, e⟩
theorem OwnSg.nil (w : World) (B : Nat) : OwnSg w B (.slice none 0 0) [] := by
  unfold OwnSg
  exact ⟨rfl, Or.inl ⟨rfl, rfl⟩⟩

/-- The seven cells of an element. -/
theorem RowAt.seven {w : World} {g : Nat} {xs : List Sg} (h : RowAt w g (flatC sgC xs)) (i : Nat) (hi : i < xs.length) (s : Sg) (hs : s = xs[i]) :
    (w.cell? ⟨g, i * 7, none⟩ = some (.int .i64 s.sa) ∧ w.cell? ⟨g, i * 7 + 1, none⟩ = some (.int .i64 s.sp) ∧ w.cell? ⟨g, i * 7 + 2, none⟩ = some (.int .i64 s.da) ∧ w.cell? ⟨g, i * 7 + 3, none⟩ = some (.int .i64 s.dp) ∧ w.cell? ⟨g, i * 7 + 4, none⟩ = some (.int .i64 s.seq) ∧ w.cell? ⟨g, i * 7 + 5, none⟩ = some (.int .i64 s.ack) ∧ w.cell? ⟨g, i * 7 + 6, none⟩ = some (.string ⟨s.data.toArray⟩)) ∧
    (w.frozen? ⟨g, i * 7, none⟩ = false ∧ w.frozen? ⟨g, i * 7 + 1, none⟩ = false ∧ w.frozen? ⟨g, i * 7 + 2, none⟩ = false ∧ w.frozen? ⟨g, i * 7 + 3, none⟩ = false ∧ w.frozen? ⟨g, i * 7 + 4, none⟩ = false ∧ w.frozen? ⟨g, i * 7 + 5, none⟩ = false ∧ w.frozen? ⟨g, i * 7 + 6, none⟩ = false) := by
  have e0 := h.elem sgC_len i hi 0 (by decide) (.int .i64 s.sa) (by rw [← hs]; rfl)
  have e1 := h.elem sgC_len i hi 1 (by decide) (.int .i64 s.sp) (by rw [← hs]; rfl)
  have e2 := h.elem sgC_len i hi 2 (by decide) (.int .i64 s.da) (by rw [← hs]; rfl)
  have e3 := h.elem sgC_len i hi 3 (by decide) (.int .i64 s.dp) (by rw [← hs]; rfl)
  have e4 := h.elem sgC_len i hi 4 (by decide) (.int .i64 s.seq) (by rw [← hs]; rfl)
  have e5 := h.elem sgC_len i hi 5 (by decide) (.int .i64 s.ack) (by rw [← hs]; rfl)
  have e6 := h.elem sgC_len i hi 6 (by decide) (.string ⟨s.data.toArray⟩) (by rw [← hs]; rfl)
  exact ⟨⟨e0.1, e1.1, e2.1, e3.1, e4.1, e5.1, e6.1⟩, ⟨e0.2, e1.2, e2.2, e3.2, e4.2, e5.2, e6.2⟩⟩

end Go.Proofs.YtgfkiljkpkfapaaGreatDoor

/- Plain facts on cutting bytes into segments, and on what a segment adds to what is known. No program. No condition. -/
namespace Go.Proofs.YtgfkiljkpkfapaaGreatDoor

/-- What is known of a stream, and what a segment adds to it. -/
def addL (known : List UInt8) (seq : Int) (d : List UInt8) : List UInt8 := if 0 ≤ seq ∧ seq ≤ known.length then known ++ d.drop (known.length - seq.toNat) else known
theorem addL_out {known : List UInt8} {seq : Int} {d : List UInt8} (h : ¬ (0 ≤ seq ∧ seq ≤ known.length)) : addL known seq d = known := if_neg h
theorem addL_in {known : List UInt8} {q : Nat} {d : List UInt8} (h : q ≤ known.length) : addL known q d = known ++ d.drop (known.length - q) := by
  unfold addL; rw [if_pos ⟨by omega, by omega⟩, Int.toNat_natCast]
theorem addL_old {known : List UInt8} {q : Nat} {d : List UInt8} (h : q + d.length ≤ known.length) : addL known q d = known := by
  rw [addL_in (by omega), List.drop_of_length_le (by omega), List.append_nil]

/-- The k-th piece of bytes from a place on; how many there are; all of them. -/
def pieceL (s : Sg) (far : List UInt8) (a k : Nat) : Sg := { s with seq := ((a + 12 * k : Nat) : Int), data := (far.drop (a + 12 * k)).take 12 }
def piecesN (n a : Nat) : Nat := (n - a - 1) / 12 + 1
def cutL (s : Sg) (far : List UInt8) (a : Nat) : List Sg := (List.range (piecesN far.length (min a far.length))).map (pieceL s far (min a far.length))
theorem cutL_len (s : Sg) (far : List UInt8) (a : Nat) : (cutL s far a).length = piecesN far.length (min a far.length) := by simp [cutL]
theorem cutL_at (s : Sg) (far : List UInt8) (a k : Nat) (h : k < (cutL s far a).length) : (cutL s far a)[k] = pieceL s far (min a far.length) k := by simp [cutL]
theorem cutL_take {s : Sg} {far : List UInt8} {a k : Nat} (h : k < (cutL s far a).length) : (cutL s far a).take (k + 1) = (cutL s far a).take k ++ [pieceL s far (min a far.length) k] := by
  rw [List.take_succ_eq_append_getElem h, cutL_at]
theorem pieces_pos (n a : Nat) : 0 < piecesN n a := by unfold piecesN; omega
theorem pieces_end {n a : Nat} (h : n ≤ a) : piecesN n a = 1 := by unfold piecesN; omega
/-- The segments that SegCut answers. -/
def segCutL (s : Sg) (far : List UInt8) (a : Int) : List Sg := if segOkB s = true ∧ far.length ≤ 240 ∧ 0 ≤ a then cutL s far a.toNat else []

end Go.Proofs.YtgfkiljkpkfapaaGreatDoor
