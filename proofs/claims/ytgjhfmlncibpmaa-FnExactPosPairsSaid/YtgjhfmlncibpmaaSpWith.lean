/- One span more behind some. Conditions: at most 2^22 spans, texts of at most 2^21 bytes, places of at most 2^22. -/
import Derived.Test.YtgjhfmlncibpmaaSpMem
namespace Go.Proofs.Ytgjhfmlncibpmaa
open Go.RowKit

theorem str_beq (x y : List UInt8) : (((⟨x.toArray⟩ : ByteArray).toList) == ((⟨y.toArray⟩ : ByteArray).toList)) = decide (y = x) := by
  rw [Lib.toList_data, Lib.toList_data]
  by_cases h : y = x
  · subst h; simp
  · rw [decide_eq_false h]
    simp
    intro e; exact h e.symm

theorem lastS_take (l : List (List UInt8 × List UInt8)) {k : Nat} (h : k ≤ l.length) : (lastS ((spansL l).take k)).2.1 = insL (l.take k) ∧ (lastS ((spansL l).take k)).2.2.2.1 = outsL (l.take k) := by
  cases k with
  | zero => exact ⟨rfl, rfl⟩
  | succ k =>
    rw [spansL_succ (by omega)]
    unfold lastS
    simp only [List.getLast?_append, List.getLast?_singleton, Option.some_or, Option.getD_some]
    exact ⟨rfl, rfl⟩
theorem spAt_next {l : List (List UInt8 × List UInt8)} {k : Nat} (h : k < l.length) : spAt l k = (insL (l.take k), insL (l.take k) + l[k].1.length + 1, outsL (l.take k), outsL (l.take k) + l[k].2.length + 1, decide (l[k].2 = l[k].1)) := by
  unfold spAt
  rw [insL_succ h, outsL_succ h, List.getElem?_eq_getElem h]
  rfl

set_option maxRecDepth 100000 in
set_option maxHeartbeats 3200000 in
theorem with_any (B : Nat) (v : Value) (xs : List (Nat × Nat × Nat × Nat × Bool)) (x y : ByteArray) (w : World) (hn : xs.length ≤ 4194303) (hB : B ≤ w.heap.size) (ho : OwnSp w B v xs) (hx : x.size ≤ 2097152) (hy : y.size ≤ 2097152) (h1 : (lastS xs).2.1 ≤ 4194304) (h2 : (lastS xs).2.2.2.1 ≤ 4194304) :
    Calls Try.prog 14 #[v, .string x, .string y] w fun e w' => ∃ v', e = .returned v' ∧ OwnSp w' B v' (xs ++ [((lastS xs).2.1, (lastS xs).2.1 + x.size + 1, (lastS xs).2.2.2.1, (lastS xs).2.2.2.1 + y.size + 1, (x.toList == y.toList))]) ∧ Below B w w' := by
  obtain ⟨i0, hi, hz0, hz1, hz2⟩ := info_parts infoSpan
  have HL := Lib.hid (last_any v xs w (by omega) ho.rd)
  obtain ⟨a, cap, rfl⟩ := ho.form
  have HO := Lib.hid ho
  obtain ⟨⟨pf, pt, po, pu, pp⟩, hp⟩ : ∃ p, p = lastS xs := ⟨_, rfl⟩
  rw [← hp] at HL h1 h2 ⊢
  simp only at h1 h2 HL ⊢
  obtain ⟨q, hq⟩ : ∃ q, q = (x.toList == y.toList) := ⟨_, rfl⟩
  rw [← hq]
  have HQ := Lib.hid hq
  clear hp ho hq
  go_enter Try.func14, Try.ntmps14
  go_wp2_with fail
  (go_at_call 23; refine HL.out.mono ?_; rintro e w1 ⟨rfl, b1⟩; have B1 := Lib.hid b1; have O1 := Lib.hid (HO.out.below b1); have z1 := b1.size; clear b1 HL HO)
  go_wp2_with (at_builtin; refine wpList_append_own _ rfl (.tmp 10) (.tmp 31) 32 rfl B 36 i0 (.agg #[.int .i64 0, .int .i64 0, .int .i64 0, .int .i64 0, .bool false]) 5 40 Try.underlying32 hi hz0 hz1 hz2 rfl (by decide) _ _ _ rfl ((O1.out.alloc _).alloc _) ⟨w1.heap.size + 1, 0, none⟩ 1 1 [.int .i64 pt, .int .i64 ((pt : Int) + x.size + 1), .int .i64 pu, .int .i64 ((pu : Int) + y.size + 1), .bool (x.toList == y.toList)] rfl rfl ?c1 ?c2 ?c3 ?c4 ?c5 ?_)
  case c1 => exact World.news_of_block (cs := #[.int .i64 pt, .int .i64 ((pt : Int) + x.size + 1), .int .i64 pu, .int .i64 ((pu : Int) + y.size + 1), .bool (x.toList == y.toList)]) (t := 36) (by have := heap_alloc_new (w1.alloc (.cells #[.int .i64 pf, .int .i64 pt, .int .i64 po, .int .i64 pu, .bool pp] 36)) (.cells #[.int .i64 pt, .int .i64 ((pt : Int) + x.size + 1), .int .i64 pu, .int .i64 ((pu : Int) + y.size + 1), .bool (x.toList == y.toList)] 36); simpa using this)
  case c2 => intro u hu; simp at hu; rcases hu with rfl | rfl | rfl | rfl | rfl <;> rfl
  case c3 => unfold maxLen; omega
  case c4 => omega
  case c5 => simp; omega
  · intro v' w2 hown hgrow _
    have HW := Lib.hid hown
    have HB : Hid (Below B w w2) := (((B1.out.mono hB).alloc (by omega) _).alloc (by simp; omega) _).grown hgrow (by simp; omega) (fun k hk => by obtain ⟨h1, _⟩ := (O1.out.lt k hk); exact h1)
    clear hown hgrow
    go_wp2_with fail
    go_ret
    refine ⟨_, rfl, ?_, HB.out⟩
    have := HW.out
    rw [HQ.out]
    unfold OwnSp
    rw [flatC_app, List.length_append]
    exact this

end Go.Proofs.Ytgjhfmlncibpmaa
