/- EndText of the program: address and port in decimals, a space between; nothing of what is no end. Condition: the table of powers of ten of the library's Itoa holds what it is laid with. -/
import Derived.Test.YtjnhmobdigfpiaaDoorSText
import Derived.Lib.SmallJoins
import Derived.Shelf.Strconv.Itoa3
import Derived.Test.YtjnhmobdigfpiaaDoorShelf
namespace Go.Proofs.YtjnhmobdigfpiaaDoor
open Go.RowKit Go.Sort

/-- The library's table of powers of ten, as the row lists it. -/
def TabOk (w : World) : Prop := Lib.TabIs Tryd.prog w "internal/strconv.uint64pow10" .u64 Lib.pow10Tab
theorem TabOk.below {w w' : World} {B : Nat} (h : TabOk w) (hb : Below B w w') (hB : w.heap.size ≤ B) : TabOk w' :=
  Joins.tab_stays (g := 7) (by kernel_rfl) h hb hB
theorem below_growN (w : World) (k : Nat) (os : Array Obj) : Below w.heap.size w (grow (w.drewN k) os) :=
  ⟨rfl, rfl, rfl, by simp [grow, World.drewN], fun k hk => by simp [grow, World.drewN, Array.getElem?_append, hk]⟩
theorem itoa_nat (n : Nat) : Lib.itoa (n : Int) = Lib.decDigits n := by
  unfold Lib.itoa; rw [if_neg (by omega)]; simp

theorem itoa_any (n : Nat) (w : World) (hn : n ≤ 1000000000000000000) (ht : TabOk w) :
    Calls Tryd.prog 44 #[.int .i64 n] w fun e w' => e = .returned (.string ⟨(Lib.decDigits n).toArray⟩) ∧ Below w.heap.size w w' := by
  have h := Any.strconv_Itoa Tryd.laysM171 (n : Int) (by omega) (by omega) w ht
  rw [itoa_nat] at h
  refine Calls.mono h ?_
  rintro e w' ⟨rfl, k, os, rfl⟩
  exact ⟨rfl, below_growN _ _ _⟩

end Go.Proofs.YtjnhmobdigfpiaaDoor
