/- Plain facts on words: the library's split at spaces gives a text's words; what a text says as a rule. No program. No condition. -/
import Derived.Test.YtjnhmobdigfpiaaDoorNum
import Derived.Test.YtjnhmobdigfpiaaDoorWordS
import Derived.Test.YtjnhmobdigfpiaaDoorRul
import Derived.Test.YtjnhmobdigfpiaaDoorRulTx
import Derived.Lib.SplitLaws
namespace Go.Proofs.YtjnhmobdigfpiaaDoor

/-- What the specification reads of a number, and what the program does. -/
def numP (l : List UInt8) : Option Int := match Lib.atoiAll l with | .ok v => if Lib.itoa v = l then some v else none | _ => none
theorem numP_some {l : List UInt8} {v : Int} (h : numP l = some v) : (0 ≤ v ∧ v ≤ 9999 ∧ numL l = v) ∨ ((v < 0 ∨ 9999 < v) ∧ numL l = -1) := by
  have hi : Lib.itoa v = l := by
    unfold numP at h
    split at h
    · split at h
      · simp at h; subst h; assumption
      · cases h
    · cases h
  by_cases h0 : 0 ≤ v
  · have hl : l = Lib.decDigits v.toNat := by rw [← hi]; unfold Lib.itoa; rw [if_neg (by omega)]
    by_cases h9 : v ≤ 9999
    · left
      refine ⟨h0, h9, ?_⟩
      rw [hl, numL_dec (by omega)]; omega
    · right
      refine ⟨by omega, ?_⟩
      by_cases hn : 0 ≤ numL l
      · have h1 := numL_inv hn
        have h2 : numL l ≤ 9999 := by
          unfold numL at hn ⊢
          split
          · omega
          · rename_i hlen
            split
            · rename_i hd
              split
              · have h3 := valL_lt l hd
                have h4 : 10 ^ l.length ≤ 10 ^ 4 := Nat.pow_le_pow_right (by omega) (by omega)
                omega
              · omega
            · omega
        rw [hl] at h1
        have h3 := congrArg valL h1
        rw [valL_dec, ← hl, valL_dec] at h3
        omega
      · unfold numL at hn ⊢
        split
        · rfl
        · rename_i a
          rw [if_neg a] at hn
          split
          · rename_i b
            rw [if_pos b] at hn
            split
            · rename_i c; rw [if_pos c] at hn; omega
            · rfl
          · rfl
  · right
    refine ⟨by omega, ?_⟩
    have hneg : ¬ 0 ≤ numL l := by
      intro hn
      have h1 := numL_inv hn
      have hh : l = 45 :: Lib.decDigits (-v).toNat := by rw [← hi]; unfold Lib.itoa; rw [if_pos (by omega)]; simp; rw [show v.natAbs = (-v).toNat by omega]
      have hd := dec_digs (numL l).toNat
      rw [← h1, hh] at hd
      have := hd 45 (by simp)
      unfold isDig at this
      simp at this
    unfold numL at hneg ⊢
    split
    · rfl
    · rename_i a
      rw [if_neg a] at hneg
      split
      · rename_i b
        rw [if_pos b] at hneg
        split
        · rename_i c; rw [if_pos c] at hneg; omega
        · rfl
      · rfl
theorem numP_none {l : List UInt8} (h : numP l = none) : numL l = -1 := by
  by_cases hn : 0 ≤ numL l
  · have h1 := numL_inv hn
    exfalso
    have h2 : (numL l).toNat ≤ 1000000000000000000 := by
      unfold numL
      split
      · simp
      · rename_i hlen
        split
        · rename_i hd
          split
          · have h3 := valL_lt l hd
            have h4 : 10 ^ l.length ≤ 10 ^ 4 := Nat.pow_le_pow_right (by omega) (by omega)
            simp; omega
          · simp
        · simp
    unfold numP at h
    rw [h1, atoi_dec _ h2] at h
    have h3 : ∀ m : Nat, Lib.itoa (m : Int) = Lib.decDigits m := fun m => by unfold Lib.itoa; rw [if_neg (by omega)]; simp
    simp only [h3, if_true] at h
    cases h
  · unfold numL at hn ⊢
    split
    · rfl
    · rename_i a
      rw [if_neg a] at hn
      split
      · rename_i b
        rw [if_pos b] at hn
        split
        · rename_i c; rw [if_pos c] at hn; omega
        · rfl
      · rfl

def allowL : List UInt8 := [97, 108, 108, 111, 119]
def denyL : List UInt8 := [100, 101, 110, 121]
def headB (l : List UInt8) : Bool := decide (l = allowL) || decide (l = denyL)
/-- The rule that words are; that a text is. -/
def rdW : List (List UInt8) → Option Rl
  | [w, a, b, c, d, e, f] => if headB w = true ∧ ruleB ⟨decide (w = allowL), numL a, numL b, numL c, numL d, numL e, numL f⟩ = true then some ⟨decide (w = allowL), numL a, numL b, numL c, numL d, numL e, numL f⟩ else none
  | _ => none
def rdT (l : List UInt8) : Option Rl := rdW (wordsL l)
/-- As the value that is answered. -/
def rdTV : Option Rl → Value
  | some r => .tuple #[.agg #[.bool r.al, .int .i64 r.i, .int .i64 r.it, .int .i64 r.o, .int .i64 r.ot, .int .i64 r.p, .int .i64 r.pt], .bool true]
  | none => .tuple #[.agg #[.bool false, .int .i64 0, .int .i64 0, .int .i64 0, .int .i64 0, .int .i64 0, .int .i64 0], .bool false]
theorem rdT_form (o : Option Rl) : ∃ (r : Rl) (b : Bool), rdTV o = .tuple #[.agg #[.bool r.al, .int .i64 r.i, .int .i64 r.it, .int .i64 r.o, .int .i64 r.ot, .int .i64 r.p, .int .i64 r.pt], .bool b] := by
  cases o with
  | none => exact ⟨⟨false, 0, 0, 0, 0, 0, 0⟩, false, rfl⟩
  | some r => exact ⟨r, true, rfl⟩

end Go.Proofs.YtjnhmobdigfpiaaDoor
