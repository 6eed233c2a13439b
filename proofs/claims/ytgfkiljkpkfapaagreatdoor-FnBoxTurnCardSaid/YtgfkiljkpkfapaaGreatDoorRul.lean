/- Rules: as data, in memory; which are ok, and what several say of two ends; RulOk of both sides. No condition. -/
import Derived.Test.YtgfkiljkpkfapaaGreatDoorInside
import Derived.Test.YtgfkiljkpkfapaaGreatDoorFlat
import Derived.Test.YtgfkiljkpkfapaaGreatDoorSegLaw
namespace Go.Proofs.YtgfkiljkpkfapaaGreatDoor
open Go.RowKit

/-- A rule as data. -/
structure Rl where
  al : Bool
  i : Int
  it : Int
  o : Int
  ot : Int
  p : Int
  pt : Int
deriving DecidableEq
instance : Inhabited Rl := ⟨⟨false, 0, 0, 0, 0, 0, 0⟩⟩
def rlC (r : Rl) : List Value := [.bool r.al, .int .i64 r.i, .int .i64 r.it, .int .i64 r.o, .int .i64 r.ot, .int .i64 r.p, .int .i64 r.pt]
def rlV (r : Rl) : Value := .agg #[.bool r.al, .int .i64 r.i, .int .i64 r.it, .int .i64 r.o, .int .i64 r.ot, .int .i64 r.p, .int .i64 r.pt]
theorem rlC_len (r : Rl) : (rlC r).length = 7 := rfl
theorem rlC_one (r : Rl) : ∀ u ∈ rlC r, u.oneCell' = true := by
  intro u hu
  simp only [rlC, List.mem_cons, List.not_mem_nil, or_false] at hu
  rcases hu with rfl | rfl | rfl | rfl | rfl | rfl | rfl <;> rfl

def rangeB (f t lo hi : Int) : Bool := inB f lo t && decide (t ≤ hi)
def ruleB (r : Rl) : Bool := rangeB r.i r.it 1 9 && rangeB r.o r.ot 100 109 && rangeB r.p r.pt 1 999
/-- Whether a rule is about an end inside and one outside. -/
def aboutB (r : Rl) (ia oa op : Int) : Bool := inB ia r.i r.it && inB oa r.o r.ot && inB op r.p r.pt
/-- What rules say, the first one that is about both. -/
def mayL : List Rl → Int → Int → Int → Bool
  | [], _, _, _ => true
  | r :: rs, ia, oa, op => if aboutB r ia oa op = true then r.al else mayL rs ia oa op
def rulesB (l : List Rl) : Bool := decide (l.length ≤ 5) && l.all ruleB
def mayB (l : List Rl) (ia ip oa op : Int) : Bool := rulesB l && insB ia ip && outB oa op && mayL l ia oa op

set_option maxRecDepth 100000 in
set_option maxHeartbeats 800000 in
theorem specRulOk_any (al : Bool) (i it o ot p pt : Int) (w : World) :
    Calls Tryz.prog 84 #[.agg #[.bool al, .int .i64 i, .int .i64 it, .int .i64 o, .int .i64 ot, .int .i64 p, .int .i64 pt]] w fun e w' => e = .returned (.bool (ruleB ⟨al, i, it, o, ot, p, pt⟩)) ∧ Below w.heap.size w w' := by
  have HS : Hid (ruleB ⟨al, i, it, o, ot, p, pt⟩ = (inB i 1 it && decide (it ≤ 9) && (inB o 100 ot && decide (ot ≤ 109)) && (inB p 1 pt && decide (pt ≤ 999)))) := rfl
  obtain ⟨q, hq⟩ : ∃ q, q = ruleB ⟨al, i, it, o, ot, p, pt⟩ := ⟨_, rfl⟩
  rw [← hq] at HS ⊢
  clear hq
  go_enter Tryz.func84, Tryz.ntmps84
  go_wp2_with (go_at_call 49; refine (specIn_any _ _ _ _).mono ?_; rintro e w' ⟨rfl, rfl⟩)
  all_goals
    go_ret
    exact ⟨ret_bool (by have := HS.out; simp_all <;> omega), (Below.refl _ _).alloc (Nat.le_refl _) _⟩

set_option maxRecDepth 100000 in
set_option maxHeartbeats 800000 in
theorem isRange_any (f t lo hi : Int) (w : World) :
    Calls Tryz.prog 127 #[.int .i64 f, .int .i64 t, .int .i64 lo, .int .i64 hi] w fun e w' => e = .returned (.bool (rangeB f t lo hi)) ∧ w = w' := by
  by_cases h1 : lo ≤ f <;> by_cases h2 : f ≤ t <;> by_cases h3 : t ≤ hi <;>
  · go_enter Tryz.func127, Tryz.ntmps127
    go_wp2
    go_ret
    exact ⟨by simp [rangeB, inB, h1, h2, h3], rfl⟩

set_option maxRecDepth 100000 in
set_option maxHeartbeats 800000 in
theorem implRulOk_any (al : Bool) (i it o ot p pt : Int) (w : World) :
    Calls Tryz.prog 95 #[.agg #[.bool al, .int .i64 i, .int .i64 it, .int .i64 o, .int .i64 ot, .int .i64 p, .int .i64 pt]] w fun e w' => e = .returned (.bool (ruleB ⟨al, i, it, o, ot, p, pt⟩)) ∧ Below w.heap.size w w' := by
  have HS : Hid (ruleB ⟨al, i, it, o, ot, p, pt⟩ = (rangeB i it 1 9 && rangeB o ot 100 109 && rangeB p pt 1 999)) := rfl
  obtain ⟨q, hq⟩ : ∃ q, q = ruleB ⟨al, i, it, o, ot, p, pt⟩ := ⟨_, rfl⟩
  rw [← hq] at HS ⊢
  clear hq
  go_enter Tryz.func95, Tryz.ntmps95
  go_wp2_with (go_at_call 127; refine (isRange_any _ _ _ _ _).mono ?_; rintro e w' ⟨rfl, rfl⟩)
  all_goals
    go_ret
    exact ⟨ret_bool (by have := HS.out; simp_all), (Below.refl _ _).alloc (Nat.le_refl _) _⟩

end Go.Proofs.YtgfkiljkpkfapaaGreatDoor
